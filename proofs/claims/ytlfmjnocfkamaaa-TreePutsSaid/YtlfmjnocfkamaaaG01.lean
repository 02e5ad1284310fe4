/-
  Texts of one seat, put together: EscM, LexM, LexN, LexO.
-/
import Derived.Test.YtlfmjnocfkamaaaG00
namespace Go.Proofs.Ytlfmjnocfkamaaa
namespace Es
open Go Tx Nmb
theorem u8_every (p : UInt8 → Prop) [DecidablePred p] (h : ∀ n : Fin 256, p (UInt8.ofNat n.val)) (c : UInt8) : p c := by
  have := h ⟨c.toNat, c.toNat_lt⟩
  simpa using this
/-- How a byte is written. -/
def escb (q : Bool) (c : UInt8) : List UInt8 :=
  if c = 38 then [38, 97, 109, 112, 59] else if c = 60 then [38, 108, 116, 59] else if c = 62 then [38, 103, 116, 59] else if c = 13 then [38, 35, 49, 51, 59]
  else if q = true ∧ c = 34 then [38, 113, 117, 111, 116, 59] else if q = true ∧ c = 9 then [38, 35, 57, 59] else if q = true ∧ c = 10 then [38, 35, 49, 48, 59] else [c]
/-- A text as it is written. -/
def escL (q : Bool) (l : List UInt8) : List UInt8 := l.flatMap (escb q)
theorem escL_nil (q : Bool) : escL q [] = [] := rfl
theorem escL_cons (q : Bool) (c : UInt8) (l : List UInt8) : escL q (c :: l) = escb q c ++ escL q l := by simp [escL]
theorem escL_app (q : Bool) (a b : List UInt8) : escL q (a ++ b) = escL q a ++ escL q b := by simp [escL]
theorem escL_snoc (q : Bool) (l : List UInt8) (c : UInt8) : escL q (l ++ [c]) = escL q l ++ escb q c := by simp [escL]
/-- What a hexadecimal digit tells. -/
def hxv (c : UInt8) : Option Nat := if 48 ≤ c.toNat ∧ c.toNat ≤ 57 then some (c.toNat - 48) else if 97 ≤ c.toNat ∧ c.toNat ≤ 102 then some (c.toNat - 87) else if 65 ≤ c.toNat ∧ c.toNat ≤ 70 then some (c.toNat - 55) else none
def hexF (l : List UInt8) : Option Nat := l.foldl (fun a c => a.bind fun n => (hxv c).map fun d => 16 * n + d) (some 0)
theorem hexF_snoc (l : List UInt8) (c : UInt8) : hexF (l ++ [c]) = (hexF l).bind fun n => (hxv c).map fun d => 16 * n + d := by simp [hexF]
def hexV (l : List UInt8) : Option Nat := if l = [] ∨ 6 < l.length ∨ l.head? = some 48 then none else hexF l
/-- The code point of a reference's number. -/
def numL (l : List UInt8) : Option Nat := ((match l with | 120 :: r => hexV r | _ => readN l)).filter fun n => may n
/-- What a reference's inside tells. -/
def meantL (l : List UInt8) : Option (List UInt8) :=
  if l = [97, 109, 112] then some [38] else if l = [108, 116] then some [60] else if l = [103, 116] then some [62] else if l = [113, 117, 111, 116] then some [34] else if l = [97, 112, 111, 115] then some [39]
  else match l with | 35 :: r => (numL r).map enc | _ => none
/-- What stands ahead of the first semicolon, and behind it. -/
def semi : List UInt8 → Option (List UInt8 × List UInt8)
  | [] => none
  | c :: r => if c = 59 then some ([], r) else (semi r).map fun p => (c :: p.1, p.2)
theorem semi_some : ∀ (l x r : List UInt8), semi l = some (x, r) → l = x ++ 59 :: r ∧ (59 : UInt8) ∉ x
  | [], x, r, h => by cases h
  | c :: l, x, r, h => by
    rw [semi] at h
    split at h
    · rename_i hc
      cases h
      exact ⟨by rw [hc]; rfl, by simp⟩
    · rename_i hc
      rw [Option.map_eq_some_iff] at h
      obtain ⟨⟨y, t⟩, h1, h2⟩ := h
      cases h2
      obtain ⟨e, hn⟩ := semi_some l y _ h1
      refine ⟨by rw [e]; rfl, ?_⟩
      intro hm
      rcases List.mem_cons.1 hm with h | h
      · exact hc h.symm
      · exact hn h
theorem semi_of (x r : List UInt8) (h : (59 : UInt8) ∉ x) : semi (x ++ 59 :: r) = some (x, r) := by
  induction x with
  | nil => simp [semi]
  | cons c x ih =>
    rw [List.cons_append, semi, if_neg (fun e => h (by simp [e])), ih (fun hm => h (by simp [hm]))]
    rfl
theorem semi_none (l : List UInt8) (h : (59 : UInt8) ∉ l) : semi l = none := by
  induction l with
  | nil => rfl
  | cons c l ih =>
    rw [semi, if_neg (fun e => h (by simp [e])), ih (fun hm => h (by simp [hm]))]
    rfl
/-- What is read, in so many steps at most. -/
def rdF : Nat → List UInt8 → Option (List UInt8)
  | _, [] => some []
  | 0, _ :: _ => none
  | f + 1, c :: r => if c = 60 then none else if c = 38 then (match semi r with
      | none => none
      | some (x, t) => match meantL x with
        | none => none
        | some y => (rdF f t).map (y ++ ·)) else (rdF f r).map (c :: ·)
def rd (l : List UInt8) : Option (List UInt8) := rdF l.length l
theorem rdF_same : ∀ (f g : Nat) (l : List UInt8), l.length ≤ f → l.length ≤ g → rdF f l = rdF g l
  | f, g, [], _, _ => by cases f <;> cases g <;> rfl
  | 0, g, c :: r, h, _ => by simp at h
  | f + 1, 0, c :: r, _, h => by simp at h
  | f + 1, g + 1, c :: r, h1, h2 => by
    simp only [List.length_cons] at h1 h2
    rw [rdF, rdF]
    by_cases h60 : c = 60
    · rw [if_pos h60, if_pos h60]
    · rw [if_neg h60, if_neg h60]
      by_cases h38 : c = 38
      · rw [if_pos h38, if_pos h38]
        cases hs : semi r with
        | none => rfl
        | some p =>
          obtain ⟨x, t⟩ := p
          have hl := congrArg List.length (semi_some r x t hs).1
          simp only [List.length_append, List.length_cons] at hl
          simp only
          rw [rdF_same f g t (by omega) (by omega)]
      · rw [if_neg h38, if_neg h38, rdF_same f g r (by omega) (by omega)]
theorem rd_nil : rd [] = some [] := rfl
theorem rd_bad (r : List UInt8) : rd (60 :: r) = none := by unfold rd; rw [List.length_cons, rdF, if_pos rfl]
theorem rd_byte (c : UInt8) (r : List UInt8) (h1 : c ≠ 60) (h2 : c ≠ 38) : rd (c :: r) = (rd r).map (c :: ·) := by
  unfold rd
  rw [List.length_cons, rdF, if_neg h1, if_neg h2]
theorem rd_amp (r : List UInt8) : rd (38 :: r) = match semi r with
    | none => none
    | some (x, t) => match meantL x with
      | none => none
      | some y => (rd t).map (y ++ ·) := by
  unfold rd
  rw [List.length_cons, rdF, if_neg (by decide), if_pos rfl]
  cases hs : semi r with
  | none => rfl
  | some p =>
    obtain ⟨x, t⟩ := p
    have hl := congrArg List.length (semi_some r x t hs).1
    simp only [List.length_append, List.length_cons] at hl
    simp only
    rw [rdF_same r.length t.length t (by omega) (Nat.le_refl _)]
theorem rd_app : ∀ (n : Nat) (a b z : List UInt8), a.length ≤ n → rd a = some z → rd (a ++ b) = (rd b).map (z ++ ·)
  | n, [], b, z, _, h => by
    cases h
    simp
  | 0, c :: a, b, z, h, _ => by simp at h
  | n + 1, c :: a, b, z, hn, h => by
    simp only [List.length_cons] at hn
    rw [List.cons_append]
    by_cases h60 : c = 60
    · subst h60; rw [rd_bad] at h; cases h
    · by_cases h38 : c = 38
      · subst h38
        rw [rd_amp] at h ⊢
        cases hs : semi a with
        | none => rw [hs] at h; cases h
        | some p =>
          obtain ⟨x, t⟩ := p
          obtain ⟨e, hx⟩ := semi_some a x t hs
          rw [hs] at h
          have e2 : semi (a ++ b) = some (x, t ++ b) := by rw [e, List.append_assoc]; exact semi_of x (t ++ b) hx
          rw [e2]
          simp only at h ⊢
          cases hm : meantL x with
          | none => rw [hm] at h; cases h
          | some y =>
            rw [hm] at h
            simp only at h ⊢
            rw [Option.map_eq_some_iff] at h
            obtain ⟨u, hu, rfl⟩ := h
            have hl := congrArg List.length e
            simp only [List.length_append, List.length_cons] at hl
            rw [rd_app n t b u (by omega) hu]
            cases rd b <;> simp
      · rw [rd_byte c a h60 h38] at h
        rw [rd_byte c (a ++ b) h60 h38]
        rw [Option.map_eq_some_iff] at h
        obtain ⟨u, hu, rfl⟩ := h
        rw [rd_app n a b u (by omega) hu]
        cases rd b <;> simp
theorem rd_append (a b z : List UInt8) (h : rd a = some z) : rd (a ++ b) = (rd b).map (z ++ ·) := rd_app a.length a b z (Nat.le_refl _) h
theorem rd_escb (q : Bool) (c : UInt8) : rd (escb q c) = some [c] := by
  cases q
  · exact u8_every (fun c => rd (escb false c) = some [c]) (by decide +kernel) c
  · exact u8_every (fun c => rd (escb true c) = some [c]) (by decide +kernel) c
/-- What is written is read as that text. -/
theorem rd_esc (q : Bool) (l : List UInt8) : rd (escL q l) = some l := by
  induction l with
  | nil => rfl
  | cons c l ih =>
    rw [escL_cons, rd_append _ _ _ (rd_escb q c), ih]
    rfl
/-- The bytes that are written. -/
theorem escb_ok (q : Bool) (c : UInt8) : ∀ x ∈ escb q c, x ≠ 60 ∧ x ≠ 62 ∧ x ≠ 13 ∧ (q = true → x ≠ 34 ∧ x ≠ 9 ∧ x ≠ 10) := by
  cases q
  · exact u8_every (fun c => ∀ x ∈ escb false c, x ≠ 60 ∧ x ≠ 62 ∧ x ≠ 13 ∧ (false = true → x ≠ 34 ∧ x ≠ 9 ∧ x ≠ 10)) (by decide +kernel) c
  · exact u8_every (fun c => ∀ x ∈ escb true c, x ≠ 60 ∧ x ≠ 62 ∧ x ≠ 13 ∧ (true = true → x ≠ 34 ∧ x ≠ 9 ∧ x ≠ 10)) (by decide +kernel) c
theorem escL_ok (q : Bool) (l : List UInt8) : ∀ x ∈ escL q l, x ≠ 60 ∧ x ≠ 62 ∧ x ≠ 13 ∧ (q = true → x ≠ 34 ∧ x ≠ 9 ∧ x ≠ 10) := by
  intro x hx
  unfold escL at hx
  rw [List.mem_flatMap] at hx
  obtain ⟨c, _, hc⟩ := hx
  exact escb_ok q c x hc
theorem escb_len (q : Bool) (c : UInt8) : 1 ≤ (escb q c).length ∧ (escb q c).length ≤ 6 := by
  cases q
  · exact u8_every (fun c => 1 ≤ (escb false c).length ∧ (escb false c).length ≤ 6) (by decide +kernel) c
  · exact u8_every (fun c => 1 ≤ (escb true c).length ∧ (escb true c).length ≤ 6) (by decide +kernel) c
theorem escL_len (q : Bool) (l : List UInt8) : l.length ≤ (escL q l).length ∧ (escL q l).length ≤ 6 * l.length := by
  induction l with
  | nil => simp [escL]
  | cons c l ih =>
    have := escb_len q c
    rw [escL_cons, List.length_append, List.length_cons]
    omega
/-- The code points of what is written. -/
def escn (q : Bool) (n : Nat) : List Nat := if n < 128 then (escb q (bt n)).map UInt8.toNat else [n]
theorem escb_far (q : Bool) (c : UInt8) (h : 128 ≤ c.toNat) : escb q c = [c] := by
  cases q
  · exact u8_every (fun c => 128 ≤ c.toNat → escb false c = [c]) (by decide +kernel) c h
  · exact u8_every (fun c => 128 ≤ c.toNat → escb true c = [c]) (by decide +kernel) c h
theorem escb_near (q : Bool) (c : UInt8) (h : c.toNat < 128) : ∀ x ∈ escb q c, x.toNat < 128 ∧ (may (c.toNat : Int) = true → may (x.toNat : Int) = true) := by
  cases q
  · exact u8_every (fun c => c.toNat < 128 → ∀ x ∈ escb false c, x.toNat < 128 ∧ (may (c.toNat : Int) = true → may (x.toNat : Int) = true)) (by decide +kernel) c h
  · exact u8_every (fun c => c.toNat < 128 → ∀ x ∈ escb true c, x.toNat < 128 ∧ (may (c.toNat : Int) = true → may (x.toNat : Int) = true)) (by decide +kernel) c h
theorem encs_near (l : List UInt8) (h : ∀ x ∈ l, x.toNat < 128) : encs (l.map UInt8.toNat) = l := by
  induction l with
  | nil => rfl
  | cons c l ih =>
    rw [List.map_cons, encs_cons, ih (fun x hx => h x (by simp [hx]))]
    have : enc c.toNat = [c] := by unfold enc; rw [if_pos (h c (by simp)), bt_of c _ rfl]
    rw [this]
    rfl
theorem enc_far (n : Nat) (h : 128 ≤ n) (hs : sv n = true) : ∀ x ∈ enc n, 128 ≤ x.toNat := by
  have hb := sv_le hs
  unfold enc
  rw [if_neg (by omega)]
  intro x hx
  split at hx
  · simp only [List.mem_cons, List.not_mem_nil, or_false] at hx
    rcases hx with rfl | rfl <;> rw [bt_nat _ (by omega)] <;> omega
  · split at hx
    · simp only [List.mem_cons, List.not_mem_nil, or_false] at hx
      rcases hx with rfl | rfl | rfl <;> rw [bt_nat _ (by omega)] <;> omega
    · simp only [List.mem_cons, List.not_mem_nil, or_false] at hx
      rcases hx with rfl | rfl | rfl | rfl <;> rw [bt_nat _ (by omega)] <;> omega
theorem escL_far (q : Bool) (l : List UInt8) (h : ∀ x ∈ l, 128 ≤ x.toNat) : escL q l = l := by
  induction l with
  | nil => rfl
  | cons c l ih => rw [escL_cons, escb_far q c (h c (by simp)), ih (fun x hx => h x (by simp [hx]))]; rfl
theorem esc_enc (q : Bool) (n : Nat) (hs : sv n = true) : escL q (enc n) = encs (escn q n) := by
  unfold escn
  by_cases h : n < 128
  · rw [if_pos h]
    have hb : (bt n).toNat = n := bt_nat n (by omega)
    have e : enc n = [bt n] := by unfold enc; rw [if_pos h]
    rw [e, escL_cons, escL_nil, List.append_nil, encs_near _ (fun x hx => (escb_near q (bt n) (by omega) x hx).1)]
  · rw [if_neg h, escL_far q _ (enc_far n (by omega) hs), encs_cons, encs_nil, List.append_nil]
theorem escn_may (q : Bool) (n : Nat) (h : may (n : Int) = true) : mays (escn q n) := by
  unfold escn
  by_cases h1 : n < 128
  · rw [if_pos h1]
    have hb : (bt n).toNat = n := bt_nat n (by omega)
    intro x hx
    obtain ⟨y, hy, rfl⟩ := List.mem_map.1 hx
    exact (escb_near q (bt n) (by omega) y hy).2 (by rw [hb]; exact h)
  · rw [if_neg h1]
    intro x hx
    rw [List.mem_singleton] at hx
    subst hx
    exact h
theorem esc_encs (q : Bool) (ns : List Nat) (h : mays ns) : escL q (encs ns) = encs (ns.flatMap (escn q)) ∧ mays (ns.flatMap (escn q)) := by
  induction ns with
  | nil => exact ⟨rfl, mays_nil⟩
  | cons n ns ih =>
    rw [mays_cons] at h
    obtain ⟨i1, i2⟩ := ih h.2
    refine ⟨?_, ?_⟩
    · rw [encs_cons, escL_app, esc_enc q n (nat_sv h.1), i1, List.flatMap_cons, encs_append]
    · rw [List.flatMap_cons, mays_append]
      exact ⟨escn_may q n h.1, i2⟩
/-- What is written of a text is a text. -/
theorem pts_esc (q : Bool) (l : List UInt8) (h : (pts l).isSome = true) : (pts (escL q l)).isSome = true := by
  obtain ⟨ns, hns⟩ := Option.isSome_iff_exists.1 h
  obtain ⟨e, hm⟩ := (pts_iff l ns).1 hns
  obtain ⟨e2, hm2⟩ := esc_encs q ns hm
  rw [e, e2, pts_encs hm2]
  rfl
theorem pts_app {a b : List UInt8} (ha : (pts a).isSome = true) (hb : (pts b).isSome = true) : (pts (a ++ b)).isSome = true := by
  obtain ⟨na, h1⟩ := Option.isSome_iff_exists.1 ha
  obtain ⟨nb, h2⟩ := Option.isSome_iff_exists.1 hb
  obtain ⟨e1, m1⟩ := (pts_iff a na).1 h1
  obtain ⟨e2, m2⟩ := (pts_iff b nb).1 h2
  rw [e1, e2, ← encs_append, pts_encs (mays_append.2 ⟨m1, m2⟩)]
  rfl
end Es
end Go.Proofs.Ytlfmjnocfkamaaa
namespace Go.Proofs.Ytlfmjnocfkamaaa
namespace Lx
open Tx Nmb Es
set_option linter.unusedVariables false
/-- An attribute; a token. -/
structure Pr where
  name : List UInt8
  value : List UInt8
structure Tk where
  kind : Nat
  name : List UInt8
  attrs : List Pr
  text : List UInt8
def ltr (c : UInt8) : Bool := (decide (97 ≤ c.toNat) && decide (c.toNat ≤ 122)) || (decide (65 ≤ c.toNat) && decide (c.toNat ≤ 90)) || c == 95
def nch (c : UInt8) : Bool := ltr c || (decide (48 ≤ c.toNat) && decide (c.toNat ≤ 57)) || c == 46 || c == 45
def wch (c : UInt8) : Bool := nch c || c == 58
def blk (c : UInt8) : Bool := c == 32 || c == 9 || c == 10 || c == 13
/-- Is that a name? -/
def nameL : List UInt8 → Bool
  | [] => false
  | c :: r => ltr c && r.all nch
/-- What stands ahead of the first colon, and behind it. -/
def cutC : List UInt8 → Option (List UInt8 × List UInt8)
  | [] => none
  | c :: r => if c = 58 then some ([], r) else (cutC r).map fun p => (c :: p.1, p.2)
def fullL (l : List UInt8) : Bool := match cutC l with | some (a, b) => nameL b && nameL a | none => nameL l
theorem cutC_some : ∀ {l a b : List UInt8}, cutC l = some (a, b) → l = a ++ 58 :: b ∧ (58 : UInt8) ∉ a := by
  intro l
  induction l with
  | nil => intro a b h; cases h
  | cons c r ih =>
    intro a b h
    unfold cutC at h
    by_cases hc : c = 58
    · rw [if_pos hc] at h
      obtain ⟨rfl, rfl⟩ := (Prod.mk.injEq _ _ _ _).mp (Option.some.inj h)
      exact ⟨by rw [hc]; rfl, by simp⟩
    · rw [if_neg hc] at h
      cases hr : cutC r with
      | none => rw [hr] at h; cases h
      | some p =>
        rw [hr] at h
        obtain ⟨rfl, rfl⟩ := (Prod.mk.injEq _ _ _ _).mp (Option.some.inj h)
        obtain ⟨h1, h2⟩ := ih (a := p.1) (b := p.2) hr
        exact ⟨by rw [h1]; rfl, by rw [List.mem_cons, not_or]; exact ⟨Ne.symm hc, h2⟩⟩
theorem nch_of_ltr {c : UInt8} (h : ltr c = true) : nch c = true := by unfold nch; rw [h]; rfl
theorem nameL_all {l : List UInt8} (h : nameL l = true) : ∀ c ∈ l, nch c = true := by
  cases l with
  | nil => cases h
  | cons c r =>
    unfold nameL at h
    rw [Bool.and_eq_true] at h
    intro x hx
    rcases List.mem_cons.1 hx with rfl | hx
    · exact nch_of_ltr h.1
    · exact List.all_eq_true.1 h.2 x hx
theorem fullL_all {l : List UInt8} (h : fullL l = true) : ∀ c ∈ l, wch c = true := by
  unfold fullL at h
  cases hc : cutC l with
  | none =>
    rw [hc] at h
    intro x hx
    unfold wch
    rw [nameL_all h x hx]
    rfl
  | some p =>
    obtain ⟨a, b⟩ := p
    rw [hc] at h
    simp only [Bool.and_eq_true] at h
    obtain ⟨rfl, _⟩ := cutC_some hc
    intro x hx
    unfold wch
    rcases List.mem_append.1 hx with hx | hx
    · rw [nameL_all h.2 x hx]; rfl
    · rcases List.mem_cons.1 hx with rfl | hx
      · decide
      · rw [nameL_all h.1 x hx]; rfl
theorem fullL_ne {l : List UInt8} (h : fullL l = true) : l ≠ [] := by rintro rfl; cases h
theorem wch_far {c : UInt8} (h : wch c = true) : blk c = false ∧ c ≠ 61 ∧ c ≠ 62 ∧ c ≠ 47 ∧ c ≠ 60 ∧ c ≠ 34 ∧ c ≠ 39 ∧ c.toNat < 128 ∧ 45 ≤ c.toNat := by
  revert h
  exact u8_every (fun c => wch c = true → blk c = false ∧ c ≠ 61 ∧ c ≠ 62 ∧ c ≠ 47 ∧ c ≠ 60 ∧ c ≠ 34 ∧ c ≠ 39 ∧ c.toNat < 128 ∧ 45 ≤ c.toNat) (by decide +kernel) c
theorem blk_far {c : UInt8} (h : blk c = true) : wch c = false ∧ c ≠ 61 ∧ c ≠ 62 ∧ c ≠ 47 ∧ c ≠ 60 ∧ c ≠ 34 ∧ c ≠ 39 ∧ c.toNat < 128 := by
  revert h
  exact u8_every (fun c => blk c = true → wch c = false ∧ c ≠ 61 ∧ c ≠ 62 ∧ c ≠ 47 ∧ c ≠ 60 ∧ c ≠ 34 ∧ c ≠ 39 ∧ c.toNat < 128) (by decide +kernel) c
/-- Taken while, and dropped while, ahead of what is other. -/
theorem tw_app {p : UInt8 → Bool} {a b : List UInt8} (ha : ∀ c ∈ a, p c = true) (hb : ∀ c r, b = c :: r → p c = false) : (a ++ b).takeWhile p = a ∧ (a ++ b).dropWhile p = b := by
  induction a with
  | nil =>
    cases b with
    | nil => exact ⟨rfl, rfl⟩
    | cons c r =>
      have := hb c r rfl
      simp [this]
  | cons c a ih =>
    have hc := ha c (by simp)
    obtain ⟨h1, h2⟩ := ih (fun x hx => ha x (by simp [hx]))
    simp only [List.cons_append, List.takeWhile_cons, List.dropWhile_cons, hc, if_true, h1, h2]
    refine ⟨?_, ?_⟩ <;> first | rfl | trivial
theorem tw_split (p : UInt8 → Bool) (l : List UInt8) : l = l.takeWhile p ++ l.dropWhile p ∧ (∀ c ∈ l.takeWhile p, p c = true) ∧ ∀ c r, l.dropWhile p = c :: r → p c = false := by
  induction l with
  | nil => exact ⟨rfl, by simp, fun c r h => by cases h⟩
  | cons c l ih =>
    by_cases hc : p c = true
    · simp only [List.takeWhile_cons, List.dropWhile_cons, hc, if_true]
      refine ⟨by rw [List.cons_append, ← ih.1], fun x hx => ?_, ih.2.2⟩
      rcases List.mem_cons.1 hx with rfl | hx
      · exact hc
      · exact ih.2.1 x hx
    · simp only [List.takeWhile_cons, List.dropWhile_cons, hc]
      refine ⟨rfl, by simp, fun x r h => ?_⟩
      obtain ⟨rfl, _⟩ := List.cons.inj h
      exact Bool.eq_false_iff.2 hc
/-- The full name that a text begins with; none: empty. -/
def wordL (l : List UInt8) : List UInt8 := if fullL (l.takeWhile wch) then l.takeWhile wch else []
theorem wordL_app {a b : List UInt8} (ha : fullL a = true) (hb : ∀ c r, b = c :: r → wch c = false) : wordL (a ++ b) = a := by
  unfold wordL
  rw [(tw_app (fullL_all ha) hb).1, if_pos ha]
theorem wordL_ne {l : List UInt8} (h : wordL l ≠ []) : fullL (wordL l) = true ∧ l = wordL l ++ l.dropWhile wch ∧ (∀ c r, l.dropWhile wch = c :: r → wch c = false) := by
  unfold wordL at h ⊢
  by_cases hf : fullL (l.takeWhile wch) = true
  · rw [if_pos hf] at h ⊢
    obtain ⟨h1, _, h3⟩ := tw_split wch l
    exact ⟨hf, h1, h3⟩
  · rw [if_neg hf] at h
    exact absurd rfl h
/-- What a value tells. -/
def toldL (l : List UInt8) : Option (List UInt8) := rd (l.map fun c => if blk c then 32 else c)
/-- What stands ahead of a sign, and behind it. -/
def cutQ (q : UInt8) : List UInt8 → Option (List UInt8 × List UInt8)
  | [] => none
  | c :: r => if c = q then some ([], r) else (cutQ q r).map fun p => (c :: p.1, p.2)
theorem cutQ_some {q : UInt8} : ∀ {l a b : List UInt8}, cutQ q l = some (a, b) → l = a ++ q :: b ∧ q ∉ a := by
  intro l
  induction l with
  | nil => intro a b h; cases h
  | cons c r ih =>
    intro a b h
    unfold cutQ at h
    by_cases hc : c = q
    · rw [if_pos hc] at h
      obtain ⟨rfl, rfl⟩ := (Prod.mk.injEq _ _ _ _).mp (Option.some.inj h)
      exact ⟨by rw [hc]; rfl, by simp⟩
    · rw [if_neg hc] at h
      cases hr : cutQ q r with
      | none => rw [hr] at h; cases h
      | some p =>
        rw [hr] at h
        obtain ⟨rfl, rfl⟩ := (Prod.mk.injEq _ _ _ _).mp (Option.some.inj h)
        obtain ⟨h1, h2⟩ := ih (a := p.1) (b := p.2) hr
        exact ⟨by rw [h1]; rfl, by rw [List.mem_cons, not_or]; exact ⟨Ne.symm hc, h2⟩⟩
theorem cutQ_of {q : UInt8} : ∀ {a : List UInt8} (b : List UInt8), q ∉ a → cutQ q (a ++ q :: b) = some (a, b) := by
  intro a
  induction a with
  | nil => intro b _; show (if q = q then _ else _) = _; rw [if_pos rfl]
  | cons c a ih =>
    intro b h
    rw [List.mem_cons, not_or] at h
    show (if c = q then _ else _) = _
    rw [if_neg (Ne.symm h.1)]
    show Option.map _ (cutQ q (a ++ q :: b)) = _
    rw [ih b h.2]
    rfl
theorem cutQ_none {q : UInt8} : ∀ {l : List UInt8}, q ∉ l → cutQ q l = none := by
  intro l
  induction l with
  | nil => intro _; rfl
  | cons c l ih =>
    intro h
    rw [List.mem_cons, not_or] at h
    show (if c = q then _ else _) = _
    rw [if_neg (Ne.symm h.1), ih h.2]
    rfl
/-- A value that begins here, and what stands behind it. -/
def valL (l : List UInt8) : Option (List UInt8 × List UInt8) := match l with
  | [] => none
  | q :: r => if q = 34 ∨ q = 39 then match cutQ q r with | none => none | some (raw, y) => (toldL raw).map fun v => (v, y) else none
/-- The attribute that a text begins with, and what stands behind it. -/
def attrL (l : List UInt8) : Option (Pr × List UInt8) :=
  if wordL l = [] then none else
  match (l.drop (wordL l).length).dropWhile blk with
  | [] => none
  | c :: r => if c = 61 then (valL (r.dropWhile blk)).map fun p => (⟨wordL l, p.1⟩, p.2) else none
theorem valL_iff (l v r : List UInt8) : valL l = some (v, r) ↔ ∃ q raw, l = q :: (raw ++ q :: r) ∧ (q = 34 ∨ q = 39) ∧ q ∉ raw ∧ toldL raw = some v := by
  constructor
  · intro h
    unfold valL at h
    cases l with
    | nil => cases h
    | cons q s =>
      dsimp only at h
      by_cases hq : q = 34 ∨ q = 39
      · rw [if_pos hq] at h
        cases hc : cutQ q s with
        | none => rw [hc] at h; cases h
        | some p =>
          obtain ⟨raw, y⟩ := p
          rw [hc] at h
          dsimp only at h
          obtain ⟨e1, e2⟩ := cutQ_some hc
          cases ht : toldL raw with
          | none => rw [ht] at h; cases h
          | some v' =>
            rw [ht] at h
            obtain ⟨rfl, rfl⟩ := (Prod.mk.injEq _ _ _ _).mp (Option.some.inj h)
            exact ⟨q, raw, by rw [e1], hq, e2, ht⟩
      · rw [if_neg hq] at h
        cases h
  · rintro ⟨q, raw, rfl, hq, hn, ht⟩
    unfold valL
    dsimp only
    rw [if_pos hq, cutQ_of _ hn]
    dsimp only
    rw [ht]
    rfl
theorem attrL_iff (l r : List UInt8) (p : Pr) : attrL l = some (p, r) ↔ ∃ g1 g2 x, l = p.name ++ (g1 ++ 61 :: (g2 ++ x)) ∧ fullL p.name = true ∧ (∀ c ∈ g1, blk c = true) ∧ (∀ c ∈ g2, blk c = true) ∧ valL x = some (p.value, r) := by
  constructor
  · intro h
    unfold attrL at h
    by_cases hw : wordL l = []
    · rw [if_pos hw] at h; cases h
    · rw [if_neg hw] at h
      obtain ⟨h1, h2, h3⟩ := wordL_ne hw
      have hd : l.drop (wordL l).length = l.dropWhile wch := by
        conv => lhs; arg 2; rw [h2]
        rw [List.drop_left]
      rw [hd] at h
      obtain ⟨e1, e2, e3⟩ := tw_split blk (l.dropWhile wch)
      cases hr : (l.dropWhile wch).dropWhile blk with
      | nil => rw [hr] at h; cases h
      | cons c s =>
        rw [hr] at h
        dsimp only at h
        by_cases hc : c = 61
        · rw [if_pos hc] at h
          obtain ⟨f1, f2, f3⟩ := tw_split blk s
          cases hv : valL (s.dropWhile blk) with
          | none => rw [hv] at h; cases h
          | some y =>
            rw [hv] at h
            obtain ⟨rfl, rfl⟩ := (Prod.mk.injEq _ _ _ _).mp (Option.some.inj h)
            refine ⟨_, _, _, ?_, h1, e2, f2, hv⟩
            show l = wordL l ++ _
            rw [← f1, ← hc, ← hr, ← e1]
            exact h2
        · rw [if_neg hc] at h; cases h
  · rintro ⟨g1, g2, x, rfl, hf, h1, h2, hv⟩
    have hb : ∀ c r, g1 ++ 61 :: (g2 ++ x) = c :: r → wch c = false := by
      intro c r e
      cases g1 with
      | nil => obtain ⟨rfl, _⟩ := List.cons.inj e; decide
      | cons d g => obtain ⟨rfl, _⟩ := List.cons.inj e; exact (blk_far (h1 d (by simp))).1
    have hw := wordL_app hf hb
    unfold attrL
    rw [hw, if_neg (fullL_ne hf), List.drop_left, (tw_app h1 (fun c r e => by obtain ⟨rfl, _⟩ := List.cons.inj e; decide)).2]
    dsimp only
    rw [if_pos rfl]
    have hx : ∀ c r, x = c :: r → blk c = false := by
      rintro c r' rfl
      obtain ⟨q, raw, e, hq, _⟩ := (valL_iff _ _ _).1 hv
      obtain ⟨rfl, _⟩ := List.cons.inj e
      rcases hq with rfl | rfl <;> decide
    rw [(tw_app h2 hx).2, hv]
    rfl
theorem attrL_app {l r : List UInt8} {p : Pr} (h : attrL l = some (p, r)) (b : List UInt8) : attrL (l ++ b) = some (p, r ++ b) := by
  obtain ⟨g1, g2, x, rfl, h1, h2, h3, h4⟩ := (attrL_iff _ _ _).1 h
  obtain ⟨q, raw, rfl, h5, h6, h7⟩ := (valL_iff _ _ _).1 h4
  exact (attrL_iff _ _ _).2 ⟨g1, g2, q :: (raw ++ q :: (r ++ b)), by simp, h1, h2, h3, (valL_iff _ _ _).2 ⟨q, raw, rfl, h5, h6, h7⟩⟩
theorem attrL_len {l r : List UInt8} {p : Pr} (h : attrL l = some (p, r)) : r.length + p.name.length + 3 ≤ l.length := by
  obtain ⟨g1, g2, x, rfl, h1, h2, h3, h4⟩ := (attrL_iff _ _ _).1 h
  obtain ⟨q, raw, rfl, h5, h6, h7⟩ := (valL_iff _ _ _).1 h4
  simp only [List.length_append, List.length_cons]
  omega
/-- Has one of some a name? -/
def hasL (l : List Pr) (name : List UInt8) : Bool := l.any fun p => decide (p.name = name)
/-- What stands behind a tag's name: is it bare, its attributes, and what stands behind it. -/
def tagF : Nat → List Pr → List UInt8 → Option (Bool × List Pr × List UInt8)
  | 0, _, _ => none
  | f + 1, acc, l => match l.dropWhile blk with
    | [] => none
    | c :: x => if c = 62 then some (false, acc, x) else if c = 47 ∧ x.head? = some 62 then some (true, acc, x.tail) else
      match attrL (c :: x) with
      | none => none
      | some (p, y) => if l.length = (c :: x).length ∨ hasL acc p.name = true then none else tagF f (acc ++ [p]) y
/-- The closing tag whose < and / stand ahead of a text. -/
def shutL (l : List UInt8) : Option (Tk × List UInt8) :=
  if wordL l = [] then none else
  match (l.drop (wordL l).length).dropWhile blk with
  | [] => none
  | c :: r => if c = 62 then some (⟨2, wordL l, [], []⟩, r) else none
/-- The tag whose < stands ahead of a text. -/
def tagL (l : List UInt8) : Option (Tk × List UInt8) :=
  if l.head? = some 47 then shutL l.tail else
  if wordL l = [] then none else
  (tagF (l.length + 1) [] (l.drop (wordL l).length)).map fun p => (⟨if p.1 then 3 else 1, wordL l, p.2.1, []⟩, p.2.2)
def txt (c : UInt8) : Bool := c != 60
/-- The token that a text begins with, and what stands behind it. -/
def oneL (l : List UInt8) : Option (Tk × List UInt8) := match l with
  | [] => none
  | c :: r => if c = 60 then tagL r else (rd (l.takeWhile txt)).map fun x => (⟨4, [], [], x⟩, l.dropWhile txt)
theorem dropWhile_len (p : UInt8 → Bool) (l : List UInt8) : (l.dropWhile p).length ≤ l.length := by
  have := congrArg List.length (tw_split p l).1
  rw [List.length_append] at this
  omega
theorem tagF_same : ∀ (f g : Nat) (acc : List Pr) (l : List UInt8), l.length < f → l.length < g → tagF f acc l = tagF g acc l := by
  intro f
  induction f with
  | zero => intro g acc l h; omega
  | succ f ih =>
    intro g acc l h1 h2
    cases g with
    | zero => omega
    | succ g =>
      unfold tagF
      have hl := dropWhile_len blk l
      cases hd : l.dropWhile blk with
      | nil => rfl
      | cons c x =>
        dsimp only
        rw [hd] at hl
        by_cases c1 : c = 62
        · rw [if_pos c1, if_pos c1]
        · rw [if_neg c1, if_neg c1]
          by_cases c2 : c = 47 ∧ x.head? = some 62
          · rw [if_pos c2, if_pos c2]
          · rw [if_neg c2, if_neg c2]
            cases ha : attrL (c :: x) with
            | none => rfl
            | some q =>
              obtain ⟨p, y⟩ := q
              dsimp only
              have := attrL_len ha
              by_cases c3 : l.length = (c :: x).length ∨ hasL acc p.name = true
              · rw [if_pos c3, if_pos c3]
              · rw [if_neg c3, if_neg c3]
                exact ih g _ y (by omega) (by omega)
/-- What stands behind a tag's name, put together of its parts. -/
inductive TagI : List Pr → List UInt8 → Bool → List Pr → List UInt8 → Prop
  | shut (acc : List Pr) (g x : List UInt8) : (∀ c ∈ g, blk c = true) → TagI acc (g ++ 62 :: x) false acc x
  | bare (acc : List Pr) (g x : List UInt8) : (∀ c ∈ g, blk c = true) → TagI acc (g ++ 47 :: 62 :: x) true acc x
  | attr (acc : List Pr) (g l y : List UInt8) (p : Pr) (b : Bool) (at1 : List Pr) (x : List UInt8) : (∀ c ∈ g, blk c = true) → g ≠ [] → attrL l = some (p, y) → hasL acc p.name = false → TagI (acc ++ [p]) y b at1 x → TagI acc (g ++ l) b at1 x
theorem attrL_head {c : UInt8} {x : List UInt8} {q : Pr × List UInt8} (h : attrL (c :: x) = some q) : wch c = true := by
  obtain ⟨p, y⟩ := q
  obtain ⟨g1, g2, z, e, hf, _⟩ := (attrL_iff _ _ _).1 h
  have hn := fullL_ne hf
  cases hp : p.name with
  | nil => exact absurd hp hn
  | cons d r =>
    rw [hp] at e
    obtain ⟨rfl, _⟩ := List.cons.inj e
    exact fullL_all hf c (by rw [hp]; simp)
theorem tagF_iff : ∀ (f : Nat) (acc : List Pr) (l : List UInt8) (b : Bool) (at1 : List Pr) (x : List UInt8), l.length < f → (tagF f acc l = some (b, at1, x) ↔ TagI acc l b at1 x) := by
  intro f
  induction f with
  | zero => intro acc l b at1 x h; omega
  | succ f ih =>
    intro acc l b at1 x hl
    have hsp := tw_split blk l
    constructor
    · intro h
      unfold tagF at h
      cases hd : l.dropWhile blk with
      | nil => rw [hd] at h; cases h
      | cons c r =>
        rw [hd] at h hsp
        dsimp only at h
        rw [hsp.1]
        by_cases c1 : c = 62
        · rw [if_pos c1] at h
          obtain ⟨rfl, rfl, rfl⟩ : false = b ∧ acc = at1 ∧ r = x := by simpa using h
          rw [c1]
          exact .shut _ _ _ hsp.2.1
        · rw [if_neg c1] at h
          by_cases c2 : c = 47 ∧ r.head? = some 62
          · rw [if_pos c2] at h
            obtain ⟨rfl, rfl, rfl⟩ : true = b ∧ acc = at1 ∧ r.tail = x := by simpa using h
            rw [c2.1]
            cases r with
            | nil => exact absurd c2.2 (by simp)
            | cons d r =>
              obtain rfl : d = 62 := by simpa using c2.2
              exact .bare _ _ _ hsp.2.1
          · rw [if_neg c2] at h
            cases ha : attrL (c :: r) with
            | none => rw [ha] at h; cases h
            | some q =>
              obtain ⟨p, y⟩ := q
              rw [ha] at h
              dsimp only at h
              have hal := attrL_len ha
              have hdl := dropWhile_len blk l
              rw [hd] at hdl
              by_cases c3 : l.length = (c :: r).length ∨ hasL acc p.name = true
              · rw [if_pos c3] at h; cases h
              · rw [if_neg c3] at h
                rw [not_or] at c3
                refine .attr _ _ _ _ p _ _ _ hsp.2.1 ?_ ha (Bool.eq_false_iff.2 c3.2) ((ih _ _ _ _ _ (by omega)).1 h)
                intro hg
                apply c3.1
                have := congrArg List.length hsp.1
                rw [hg] at this
                exact this
    · intro h
      unfold tagF
      cases h with
      | shut _ g _ hg =>
        rw [(tw_app hg (fun c r e => by obtain ⟨rfl, _⟩ := List.cons.inj e; decide)).2]
        rfl
      | bare _ g _ hg =>
        rw [(tw_app hg (fun c r e => by obtain ⟨rfl, _⟩ := List.cons.inj e; decide)).2]
        rfl
      | attr _ g l' y p _ _ _ hg hn ha hh ht =>
        cases hl' : l' with
        | nil => rw [hl'] at ha; cases ha
        | cons c r =>
          rw [hl'] at ha hl
          have hw := attrL_head ha
          obtain ⟨w1, _, w3, w4, _⟩ := wch_far hw
          rw [(tw_app hg (fun d s e => by obtain ⟨rfl, _⟩ := List.cons.inj e; exact w1)).2]
          dsimp only
          have hal := attrL_len ha
          rw [if_neg w3, if_neg (fun h => w4 h.1), ha]
          dsimp only
          rw [if_neg (by
            rw [not_or]
            refine ⟨fun e => hn ?_, by rw [hh]; simp⟩
            rw [List.length_append] at e
            exact List.eq_nil_of_length_eq_zero (by omega))]
          rw [List.length_append] at hl
          exact (ih _ _ _ _ _ (by omega)).2 ht
theorem TagI.app {acc : List Pr} {l : List UInt8} {b : Bool} {at1 : List Pr} {x : List UInt8} (h : TagI acc l b at1 x) (z : List UInt8) : TagI acc (l ++ z) b at1 (x ++ z) := by
  induction h with
  | shut acc g x hg => rw [List.append_assoc]; exact .shut _ _ _ hg
  | bare acc g x hg => rw [List.append_assoc]; exact .bare _ _ _ hg
  | attr acc g l y p b at1 x hg hn ha hh _ ih => rw [List.append_assoc]; exact .attr _ _ _ _ p _ _ _ hg hn (attrL_app ha z) hh ih
theorem TagI.len {acc : List Pr} {l : List UInt8} {b : Bool} {at1 : List Pr} {x : List UInt8} (h : TagI acc l b at1 x) : x.length < l.length := by
  induction h with
  | shut acc g x hg => simp; omega
  | bare acc g x hg => simp; omega
  | attr acc g l y p b at1 x hg hn ha hh _ ih =>
    have := attrL_len ha
    rw [List.length_append]
    omega
theorem TagI.first {acc : List Pr} {l : List UInt8} {b : Bool} {at1 : List Pr} {x : List UInt8} (h : TagI acc l b at1 x) : ∀ c r, l = c :: r → wch c = false := by
  intro c r e
  cases h with
  | shut _ g _ hg =>
    cases g with
    | nil => obtain ⟨rfl, _⟩ := List.cons.inj e; decide
    | cons d g => obtain ⟨rfl, _⟩ := List.cons.inj e; exact (blk_far (hg d (by simp))).1
  | bare _ g _ hg =>
    cases g with
    | nil => obtain ⟨rfl, _⟩ := List.cons.inj e; decide
    | cons d g => obtain ⟨rfl, _⟩ := List.cons.inj e; exact (blk_far (hg d (by simp))).1
  | attr _ g l' y p _ _ _ hg hn _ _ _ =>
    cases g with
    | nil => exact absurd rfl hn
    | cons d g => obtain ⟨rfl, _⟩ := List.cons.inj e; exact (blk_far (hg d (by simp))).1
/-- A tag, put together of its parts. -/
theorem shutL_iff (l r : List UInt8) (t : Tk) : shutL l = some (t, r) ↔ ∃ g, l = t.name ++ (g ++ 62 :: r) ∧ fullL t.name = true ∧ (∀ c ∈ g, blk c = true) ∧ t = ⟨2, t.name, [], []⟩ := by
  constructor
  · intro h
    unfold shutL at h
    by_cases hw : wordL l = []
    · rw [if_pos hw] at h; cases h
    · rw [if_neg hw] at h
      obtain ⟨h1, h2, h3⟩ := wordL_ne hw
      have hd : l.drop (wordL l).length = l.dropWhile wch := by
        conv => lhs; arg 2; rw [h2]
        rw [List.drop_left]
      rw [hd] at h
      obtain ⟨e1, e2, e3⟩ := tw_split blk (l.dropWhile wch)
      cases hr : (l.dropWhile wch).dropWhile blk with
      | nil => rw [hr] at h; cases h
      | cons c s =>
        rw [hr] at h
        dsimp only at h
        by_cases hc : c = 62
        · rw [if_pos hc] at h
          obtain ⟨rfl, rfl⟩ := (Prod.mk.injEq _ _ _ _).mp (Option.some.inj h)
          refine ⟨_, ?_, h1, e2, rfl⟩
          show l = wordL l ++ _
          rw [← hc, ← hr, ← e1]
          exact h2
        · rw [if_neg hc] at h; cases h
  · rintro ⟨g, rfl, hf, hg, ht⟩
    have hb : ∀ c s, g ++ 62 :: r = c :: s → wch c = false := by
      intro c s e
      cases g with
      | nil => obtain ⟨rfl, _⟩ := List.cons.inj e; decide
      | cons d g => obtain ⟨rfl, _⟩ := List.cons.inj e; exact (blk_far (hg d (by simp))).1
    unfold shutL
    rw [wordL_app hf hb, if_neg (fullL_ne hf), List.drop_left, (tw_app hg (fun c s e => by obtain ⟨rfl, _⟩ := List.cons.inj e; decide)).2]
    dsimp only
    rw [if_pos rfl, ← ht]
theorem fullL_head {l : List UInt8} (h : fullL l = true) (z : List UInt8) : (l ++ z).head? ≠ some 47 := by
  cases l with
  | nil => cases h
  | cons c r =>
    intro e
    obtain rfl : c = 47 := by simpa using e
    have := fullL_all h 47 (by simp)
    exact absurd this (by decide)
theorem tagL_iff (l r : List UInt8) (t : Tk) : tagL l = some (t, r) ↔ (∃ g, l = 47 :: (t.name ++ (g ++ 62 :: r)) ∧ fullL t.name = true ∧ (∀ c ∈ g, blk c = true) ∧ t = ⟨2, t.name, [], []⟩) ∨
    (∃ b y, l = t.name ++ y ∧ fullL t.name = true ∧ TagI [] y b t.attrs r ∧ t = ⟨if b then 3 else 1, t.name, t.attrs, []⟩) := by
  constructor
  · intro h
    unfold tagL at h
    by_cases h0 : l.head? = some 47
    · rw [if_pos h0] at h
      left
      cases l with
      | nil => cases h0
      | cons c s =>
        obtain rfl : c = 47 := by simpa using h0
        obtain ⟨g, e, h1, h2, h3⟩ := (shutL_iff _ _ _).1 h
        exact ⟨g, by rw [← e]; rfl, h1, h2, h3⟩
    · rw [if_neg h0] at h
      right
      by_cases hw : wordL l = []
      · rw [if_pos hw] at h; cases h
      · rw [if_neg hw] at h
        obtain ⟨h1, h2, h3⟩ := wordL_ne hw
        have hd : l.drop (wordL l).length = l.dropWhile wch := by
          conv => lhs; arg 2; rw [h2]
          rw [List.drop_left]
        rw [hd] at h
        cases ht : tagF (l.length + 1) [] (l.dropWhile wch) with
        | none => rw [ht] at h; cases h
        | some q =>
          obtain ⟨b, at1, x⟩ := q
          rw [ht] at h
          obtain ⟨rfl, rfl⟩ := (Prod.mk.injEq _ _ _ _).mp (Option.some.inj h)
          exact ⟨b, _, h2, h1, (tagF_iff _ _ _ _ _ _ (by have := dropWhile_len wch l; omega)).1 ht, rfl⟩
  · rintro (⟨g, rfl, h1, h2, h3⟩ | ⟨b, y, rfl, h1, h2, h3⟩)
    · unfold tagL
      rw [if_pos (show (47 :: (t.name ++ (g ++ 62 :: r))).head? = some 47 from rfl)]
      exact (shutL_iff _ _ _).2 ⟨g, rfl, h1, h2, h3⟩
    · unfold tagL
      rw [if_neg (fullL_head h1 _), wordL_app h1 h2.first, if_neg (fullL_ne h1), List.drop_left, (tagF_iff _ _ _ _ _ _ (by rw [List.length_append]; omega)).2 h2]
      show some ((⟨if b then 3 else 1, t.name, t.attrs, []⟩ : Tk), r) = _
      rw [← h3]
theorem tagL_app {l r : List UInt8} {t : Tk} (h : tagL l = some (t, r)) (b : List UInt8) : tagL (l ++ b) = some (t, r ++ b) := by
  rcases (tagL_iff _ _ _).1 h with ⟨g, rfl, h1, h2, h3⟩ | ⟨q, y, e, h1, h2, h3⟩
  · exact (tagL_iff _ _ _).2 (.inl ⟨g, by simp, h1, h2, h3⟩)
  · exact (tagL_iff _ _ _).2 (.inr ⟨q, y ++ b, by rw [e]; simp, h1, h2.app b, h3⟩)
theorem tagL_len {l r : List UInt8} {t : Tk} (h : tagL l = some (t, r)) : r.length < l.length := by
  rcases (tagL_iff _ _ _).1 h with ⟨g, rfl, h1, h2, h3⟩ | ⟨q, y, e, h1, h2, h3⟩
  · simp; omega
  · have := h2.len
    rw [e, List.length_append]
    omega
theorem oneL_len {l r : List UInt8} {t : Tk} (h : oneL l = some (t, r)) : r.length < l.length := by
  cases l with
  | nil => cases h
  | cons c s =>
    unfold oneL at h
    dsimp only at h
    by_cases hc : c = 60
    · rw [if_pos hc] at h
      have := tagL_len h
      simp
      omega
    · rw [if_neg hc] at h
      have ht : txt c = true := by simpa [txt] using hc
      cases hr : rd ((c :: s).takeWhile txt) with
      | none => rw [hr] at h; cases h
      | some x =>
        rw [hr] at h
        obtain ⟨_, rfl⟩ := (Prod.mk.injEq _ _ _ _).mp (Option.some.inj h)
        simp only [List.dropWhile_cons, ht, if_true]
        have := dropWhile_len txt s
        simp
        omega
end Lx
end Go.Proofs.Ytlfmjnocfkamaaa
namespace Go.Proofs.Ytlfmjnocfkamaaa
namespace Lx
open Tx Nmb Es
set_option linter.unusedVariables false
/-- Is that a text's code points? -/
def isP (l : List UInt8) : Bool := (pts l).isSome
theorem isP_nil : isP [] = true := rfl
theorem isP_encs {ns : List Nat} (h : mays ns) : isP (encs ns) = true := by unfold isP; rw [pts_encs h]; rfl
theorem isP_of {l : List UInt8} (h : isP l = true) : ∃ ns, l = encs ns ∧ mays ns := by
  obtain ⟨ns, hns⟩ := Option.isSome_iff_exists.1 h
  exact ⟨ns, (pts_iff l ns).1 hns⟩
theorem isP_app {a b : List UInt8} (ha : isP a = true) (hb : isP b = true) : isP (a ++ b) = true := pts_app ha hb
theorem enc_near {n : Nat} (h : n < 128) : enc n = [bt n] := by unfold enc; rw [if_pos h]
/-- A text is cut at a sign into texts. -/
theorem isP_cut : ∀ (ns : List Nat) (a b : List UInt8) (c : UInt8), mays ns → c.toNat < 128 → encs ns = a ++ c :: b → isP a = true ∧ isP b = true ∧ may (c.toNat : Int) = true := by
  intro ns
  induction ns with
  | nil =>
    intro a b c _ _ e
    cases a <;> cases e
  | cons n ns ih =>
    intro a b c hm hc e
    rw [mays_cons] at hm
    rw [encs_cons] at e
    have hs := nat_sv hm.1
    obtain ⟨h1, h2⟩ := enc_length n
    by_cases hl : (enc n).length ≤ a.length
    · have ea : a = enc n ++ a.drop (enc n).length := by
        have := congrArg (List.take (enc n).length) e
        rw [List.take_left, List.take_append_of_le_length hl] at this
        conv => lhs; rw [← List.take_append_drop (enc n).length a]
        rw [← this]
      have e2 : encs ns = a.drop (enc n).length ++ c :: b := by
        rw [ea, List.append_assoc] at e
        exact List.append_cancel_left e
      obtain ⟨i1, i2, i3⟩ := ih _ _ _ hm.2 hc e2
      refine ⟨?_, i2, i3⟩
      rw [ea]
      refine isP_app ?_ i1
      have := isP_encs (ns := [n]) (mays_cons.2 ⟨hm.1, mays_nil⟩)
      rwa [encs_cons, encs_nil, List.append_nil] at this
    · have e2 : (enc n).drop a.length ++ encs ns = c :: b := by
        have := congrArg (List.drop a.length) e
        rwa [List.drop_left, List.drop_append_of_le_length (by omega)] at this
      by_cases h0 : a.length = 0
      · obtain rfl := List.eq_nil_of_length_eq_zero h0
        rw [List.length_nil, List.drop_zero] at e2
        by_cases hn : n < 128
        · rw [enc_near hn] at e2
          obtain ⟨rfl, rfl⟩ := List.cons.inj e2
          rw [bt_nat n (by omega)]
          exact ⟨rfl, isP_encs hm.2, hm.1⟩
        · exfalso
          cases he : enc n with
          | nil => rw [he] at h1; simp at h1
          | cons d r =>
            rw [he] at e2
            obtain ⟨rfl, _⟩ := List.cons.inj e2
            have := enc_far n (by omega) hs d (by rw [he]; simp)
            omega
      · exfalso
        obtain ⟨d, r, e3, hd⟩ := enc_cont n hs a.length (by omega) (by omega)
        rw [e3] at e2
        obtain ⟨rfl, _⟩ := List.cons.inj e2
        unfold cont at hd
        have := of_decide_eq_true hd
        omega
theorem isP_split {a b : List UInt8} {c : UInt8} (h : isP (a ++ c :: b) = true) (hc : c.toNat < 128) : isP a = true ∧ isP b = true ∧ may (c.toNat : Int) = true := by
  obtain ⟨ns, e, hm⟩ := isP_of h
  exact isP_cut ns a b c hm hc e.symm
theorem isP_one {c : UInt8} (h : c.toNat < 128) (hm : may (c.toNat : Int) = true) : isP [c] = true := by
  have := isP_encs (ns := [c.toNat]) (mays_cons.2 ⟨hm, mays_nil⟩)
  rwa [encs_cons, encs_nil, List.append_nil, enc_near h, bt_of c _ rfl] at this
/-- Signs put into a text leave it a text. -/
theorem isP_map (f : UInt8 → UInt8) (hf : ∀ c, 128 ≤ c.toNat → f c = c) (hf2 : ∀ c, c.toNat < 128 → may (c.toNat : Int) = true → (f c).toNat < 128 ∧ may ((f c).toNat : Int) = true) {l : List UInt8} (h : isP l = true) : isP (l.map f) = true := by
  obtain ⟨ns, rfl, hm⟩ := isP_of h
  clear h
  induction ns with
  | nil => rfl
  | cons n ns ih =>
    rw [mays_cons] at hm
    rw [encs_cons, List.map_append]
    refine isP_app ?_ (ih hm.2)
    by_cases hn : n < 128
    · rw [enc_near hn]
      have hb : (bt n).toNat = n := bt_nat n (by omega)
      obtain ⟨q1, q2⟩ := hf2 (bt n) (by omega) (by rw [hb]; exact hm.1)
      exact isP_one q1 q2
    · have he : (enc n).map f = enc n := by
        have := enc_far n (by omega) (nat_sv hm.1)
        rw [List.map_congr_left (g := id) (fun x hx => hf x (this x hx)), List.map_id]
      rw [he]
      have := isP_encs (ns := [n]) (mays_cons.2 ⟨hm.1, mays_nil⟩)
      rwa [encs_cons, encs_nil, List.append_nil] at this
theorem isP_enc {n : Nat} (h : may (n : Int) = true) : isP (enc n) = true := by
  have := isP_encs (ns := [n]) (mays_cons.2 ⟨h, mays_nil⟩)
  rwa [encs_cons, encs_nil, List.append_nil] at this
theorem meantL_text {x y : List UInt8} (h : meantL x = some y) : isP y = true ∧ y.length ≤ x.length + 2 ∧ y ≠ [] := by
  unfold meantL at h
  by_cases h1 : x = [97, 109, 112]
  · rw [if_pos h1] at h; cases h; exact ⟨by decide +kernel, by simp, by simp⟩
  rw [if_neg h1] at h
  by_cases h2 : x = [108, 116]
  · rw [if_pos h2] at h; cases h; exact ⟨by decide +kernel, by simp, by simp⟩
  rw [if_neg h2] at h
  by_cases h3 : x = [103, 116]
  · rw [if_pos h3] at h; cases h; exact ⟨by decide +kernel, by simp, by simp⟩
  rw [if_neg h3] at h
  by_cases h4 : x = [113, 117, 111, 116]
  · rw [if_pos h4] at h; cases h; exact ⟨by decide +kernel, by simp, by simp⟩
  rw [if_neg h4] at h
  by_cases h5 : x = [97, 112, 111, 115]
  · rw [if_pos h5] at h; cases h; exact ⟨by decide +kernel, by simp, by simp⟩
  rw [if_neg h5] at h
  split at h
  · rename_i r
    cases hn : numL r with
    | none => rw [hn] at h; cases h
    | some n =>
      rw [hn] at h
      obtain rfl := Option.some.inj h
      have hm : may (n : Int) = true := by
        unfold numL at hn
        exact (Option.filter_eq_some_iff.1 hn).2
      have hr : 1 ≤ r.length := by
        cases r with
        | nil => unfold numL at hn; cases hn
        | cons c r => simp
      have := enc_length n
      refine ⟨isP_enc hm, by rw [List.length_cons]; omega, fun e => ?_⟩
      rw [e] at this
      simp at this
  · cases h
/-- What is read of a text is a text, no longer than it; none of none alone. -/
theorem rd_text : ∀ (k : Nat) (l z : List UInt8), l.length ≤ k → isP l = true → rd l = some z → isP z = true := by
  intro k
  induction k with
  | zero =>
    intro l z hl hp h
    obtain rfl := List.eq_nil_of_length_eq_zero (Nat.le_zero.1 hl)
    cases h
    rfl
  | succ k ih =>
    intro l z hl hp h
    obtain ⟨ns, rfl, hm⟩ := isP_of hp
    cases ns with
    | nil => cases h; rfl
    | cons n ns =>
      rw [mays_cons] at hm
      rw [encs_cons] at h hl
      have hel := enc_length n
      rw [List.length_append] at hl
      by_cases hn : n < 128
      · have hb : (bt n).toNat = n := bt_nat n (by omega)
        rw [enc_near hn] at h hl
        rw [List.singleton_append] at h
        by_cases h60 : bt n = 60
        · rw [h60, rd_bad] at h; cases h
        · by_cases h38 : bt n = 38
          · rw [h38, rd_amp] at h
            cases hs : semi (encs ns) with
            | none => rw [hs] at h; cases h
            | some q =>
              obtain ⟨x, t⟩ := q
              rw [hs] at h
              dsimp only at h
              cases hx : meantL x with
              | none => rw [hx] at h; cases h
              | some y =>
                rw [hx] at h
                dsimp only at h
                cases ht : rd t with
                | none => rw [ht] at h; cases h
                | some z' =>
                  rw [ht] at h
                  obtain rfl := Option.some.inj h
                  obtain ⟨e, _⟩ := semi_some _ _ _ hs
                  obtain ⟨_, q2, _⟩ := isP_cut ns x t 59 hm.2 (by decide) e
                  have he := congrArg List.length e
                  rw [List.length_append, List.length_cons] at he
                  exact isP_app (meantL_text hx).1 (ih t z' (by simp at hl; omega) q2 ht)
          · rw [rd_byte _ _ h60 h38] at h
            cases ht : rd (encs ns) with
            | none => rw [ht] at h; cases h
            | some z' =>
              rw [ht] at h
              obtain rfl := Option.some.inj h
              have := isP_app (isP_one (c := bt n) (by omega) (by rw [hb]; exact hm.1)) (ih _ z' (by simp at hl; omega) (isP_encs hm.2) ht)
              exact this
      · have hf := enc_far n (by omega) (nat_sv hm.1)
        have hr : ∀ (e : List UInt8), (∀ x ∈ e, 128 ≤ x.toNat) → ∀ r, rd (e ++ r) = (rd r).map (e ++ ·) := by
          intro e
          induction e with
          | nil => intro _ r; simp
          | cons c e ihe =>
            intro he r
            have hc := he c (by simp)
            rw [List.cons_append, rd_byte c _ (by rintro rfl; exact absurd hc (by decide)) (by rintro rfl; exact absurd hc (by decide)), ihe (fun x hx => he x (by simp [hx])) r]
            cases rd r <;> rfl
        rw [hr _ hf] at h
        cases ht : rd (encs ns) with
        | none => rw [ht] at h; cases h
        | some z' =>
          rw [ht] at h
          obtain rfl := Option.some.inj h
          exact isP_app (isP_enc hm.1) (ih _ z' (by omega) (isP_encs hm.2) ht)
theorem rd_len : ∀ (k : Nat) (l z : List UInt8), l.length ≤ k → rd l = some z → z.length ≤ l.length ∧ (l ≠ [] → z ≠ []) := by
  intro k
  induction k with
  | zero =>
    intro l z hl h
    obtain rfl := List.eq_nil_of_length_eq_zero (Nat.le_zero.1 hl)
    cases h
    exact ⟨Nat.le_refl _, fun h => absurd rfl h⟩
  | succ k ih =>
    intro l z hl h
    cases l with
    | nil => cases h; exact ⟨Nat.le_refl _, fun h => absurd rfl h⟩
    | cons c r =>
      rw [List.length_cons] at hl
      by_cases h60 : c = 60
      · rw [h60, rd_bad] at h; cases h
      · by_cases h38 : c = 38
        · rw [h38, rd_amp] at h
          cases hs : semi r with
          | none => rw [hs] at h; cases h
          | some q =>
            obtain ⟨x, t⟩ := q
            rw [hs] at h
            dsimp only at h
            cases hx : meantL x with
            | none => rw [hx] at h; cases h
            | some y =>
              rw [hx] at h
              dsimp only at h
              cases ht : rd t with
              | none => rw [ht] at h; cases h
              | some z' =>
                rw [ht] at h
                obtain rfl := Option.some.inj h
                obtain ⟨e, _⟩ := semi_some _ _ _ hs
                obtain ⟨_, m2, m3⟩ := meantL_text hx
                have he := congrArg List.length e
                rw [List.length_append, List.length_cons] at he
                have := (ih t z' (by omega) ht).1
                refine ⟨by rw [List.length_append, List.length_cons]; omega, fun _ e => m3 (List.append_eq_nil_iff.1 e).1⟩
        · rw [rd_byte _ _ h60 h38] at h
          cases ht : rd r with
          | none => rw [ht] at h; cases h
          | some z' =>
            rw [ht] at h
            obtain rfl := Option.some.inj h
            have := (ih r z' (by omega) ht).1
            exact ⟨by rw [List.length_cons, List.length_cons]; omega, fun _ e => by cases e⟩
theorem toldL_text {l v : List UInt8} (hp : isP l = true) (h : toldL l = some v) : isP v = true ∧ v.length ≤ l.length := by
  have hm : isP (l.map fun c => if blk c then 32 else c) = true := by
    refine isP_map _ (fun c hc => ?_) (fun c hc hc2 => ?_) hp
    · rw [if_neg]
      intro hb
      have := (blk_far hb).2.2.2.2.2.2.2
      omega
    · by_cases hb : blk c = true
      · rw [if_pos hb]; exact ⟨by decide, by decide⟩
      · rw [if_neg hb]; exact ⟨hc, hc2⟩
  have h2 := (rd_len _ _ _ (Nat.le_refl _) h).1
  rw [List.length_map] at h2
  exact ⟨rd_text _ _ _ (Nat.le_refl _) hm h, h2⟩
theorem toldL_esc (v : List UInt8) : toldL (escL true v) = some v := by
  unfold toldL
  rw [List.map_congr_left (g := id), List.map_id, rd_esc]
  intro x hx
  obtain ⟨h1, h2, h3, h4⟩ := escL_ok true v x hx
  obtain ⟨_, h5, h6⟩ := h4 rfl
  by_cases hb : blk x = true
  · rw [if_pos hb]
    unfold blk at hb
    simp only [Bool.or_eq_true, beq_iff_eq] at hb
    rcases hb with ((rfl | rfl) | rfl) | rfl
    · rfl
    · exact absurd rfl h5
    · exact absurd rfl h6
    · exact absurd rfl h3
  · rw [if_neg hb]
    rfl
end Lx
end Go.Proofs.Ytlfmjnocfkamaaa
namespace Go.Proofs.Ytlfmjnocfkamaaa
namespace Lx
open Tx Nmb Es
set_option linter.unusedVariables false
/-- Is that a text? -/
def okT (l : List UInt8) : Bool := decide (l.length ≤ 16384) && isP l
/-- May attributes be, behind others? -/
def attrsF : List Pr → List Pr → Bool
  | _, [] => true
  | acc, p :: r => fullL p.name && !hasL acc p.name && okT p.value && attrsF (acc ++ [p]) r
def attrsOk (l : List Pr) : Bool := attrsF [] l && decide (l.length ≤ 16)
/-- May a token be? -/
def mayT (t : Tk) : Bool :=
  if t.kind = 1 ∨ t.kind = 3 then fullL t.name && attrsOk t.attrs && t.text.isEmpty
  else if t.kind = 2 then fullL t.name && t.attrs.isEmpty && t.text.isEmpty
  else if t.kind = 4 then t.name.isEmpty && t.attrs.isEmpty && !t.text.isEmpty && okT t.text else false
/-- An attribute as it is written; a token. -/
def writeA (p : Pr) : List UInt8 := 32 :: (p.name ++ 61 :: 34 :: (escL true p.value ++ [34]))
def writeT (t : Tk) : List UInt8 :=
  if t.kind = 4 then escL false t.text else if t.kind = 2 then 60 :: 47 :: (t.name ++ [62])
  else 60 :: (t.name ++ (t.attrs.flatMap writeA ++ (if t.kind = 3 then [47, 62] else [62])))
/-- No two texts stand side by side. -/
def apart : List Tk → Bool
  | [] => true
  | [_] => true
  | a :: b :: r => !(decide (a.kind = 4) && decide (b.kind = 4)) && apart (b :: r)
theorem attrL_write (p : Pr) (hf : fullL p.name = true) (r : List UInt8) : attrL (p.name ++ 61 :: 34 :: (escL true p.value ++ 34 :: r)) = some (p, r) := by
  refine (attrL_iff _ _ _).2 ⟨[], [], 34 :: (escL true p.value ++ 34 :: r), by simp, hf, by simp, by simp, (valL_iff _ _ _).2 ⟨34, escL true p.value, rfl, .inl rfl, fun h => ?_, toldL_esc _⟩⟩
  exact ((escL_ok true p.value 34 h).2.2.2 rfl).1 rfl
theorem TagI_write : ∀ (l acc : List Pr) (b : Bool) (r : List UInt8), attrsF acc l = true → TagI acc (l.flatMap writeA ++ ((if b then [47, 62] else [62]) ++ r)) b (acc ++ l) r := by
  intro l
  induction l with
  | nil =>
    intro acc b r _
    rw [List.append_nil]
    cases b
    · exact .shut acc [] r (by simp)
    · exact .bare acc [] r (by simp)
  | cons p l ih =>
    intro acc b r h
    unfold attrsF at h
    simp only [Bool.and_eq_true, Bool.not_eq_true'] at h
    obtain ⟨⟨⟨h1, h2⟩, h3⟩, h4⟩ := h
    have e : (p :: l).flatMap writeA ++ ((if b then [47, 62] else [62]) ++ r) = [32] ++ (p.name ++ 61 :: 34 :: (escL true p.value ++ 34 :: (l.flatMap writeA ++ ((if b then [47, 62] else [62]) ++ r)))) := by
      rw [List.flatMap_cons]
      simp [writeA]
    rw [e]
    have := ih (acc ++ [p]) b r h4
    rw [List.append_assoc, List.singleton_append] at this
    exact .attr acc [32] _ _ p b _ r (by decide) (by simp) (attrL_write p h1 _) h2 this
theorem mayT_cases {t : Tk} (h : mayT t = true) : (∃ b : Bool, t.kind = (if b then 3 else 1) ∧ fullL t.name = true ∧ attrsOk t.attrs = true ∧ t.text = []) ∨ (t.kind = 2 ∧ fullL t.name = true ∧ t.attrs = [] ∧ t.text = []) ∨ (t.kind = 4 ∧ t.name = [] ∧ t.attrs = [] ∧ t.text ≠ [] ∧ okT t.text = true) := by
  unfold mayT at h
  by_cases h1 : t.kind = 1 ∨ t.kind = 3
  · rw [if_pos h1] at h
    simp only [Bool.and_eq_true, List.isEmpty_iff] at h
    rcases h1 with h1 | h1
    · exact .inl ⟨false, h1, h.1.1, h.1.2, h.2⟩
    · exact .inl ⟨true, h1, h.1.1, h.1.2, h.2⟩
  · rw [if_neg h1] at h
    by_cases h2 : t.kind = 2
    · rw [if_pos h2] at h
      simp only [Bool.and_eq_true, List.isEmpty_iff] at h
      exact .inr (.inl ⟨h2, h.1.1, h.1.2, h.2⟩)
    · rw [if_neg h2] at h
      by_cases h4 : t.kind = 4
      · rw [if_pos h4] at h
        simp only [Bool.and_eq_true, List.isEmpty_iff, Bool.not_eq_true', List.isEmpty_eq_false_iff] at h
        exact .inr (.inr ⟨h4, h.1.1.1, h.1.1.2, h.1.2, h.2⟩)
      · rw [if_neg h4] at h; cases h
theorem oneL_tag (l r : List UInt8) (t : Tk) : oneL (60 :: l) = some (t, r) ↔ tagL l = some (t, r) := by
  unfold oneL
  dsimp only
  rw [if_pos rfl]
/-- A tag that is written is read as that. -/
theorem oneL_write {t : Tk} (h : mayT t = true) (h4 : t.kind ≠ 4) (r : List UInt8) : oneL (writeT t ++ r) = some (t, r) := by
  unfold writeT
  rw [if_neg h4]
  rcases mayT_cases h with ⟨b, h1, h2, h3, h5⟩ | ⟨h1, h2, h3, h5⟩ | ⟨h1, _⟩
  · have hk : t.kind ≠ 2 := by rw [h1]; cases b <;> decide
    rw [if_neg hk]
    have ha : attrsF [] t.attrs = true := by unfold attrsOk at h3; rw [Bool.and_eq_true] at h3; exact h3.1
    have e : (if t.kind = 3 then [47, 62] else [62] : List UInt8) = if b then [47, 62] else [62] := by rw [h1]; cases b <;> rfl
    have ht := TagI_write t.attrs [] b r ha
    rw [e, List.cons_append, List.append_assoc, List.append_assoc]
    refine (oneL_tag _ _ _).2 ((tagL_iff _ _ _).2 (.inr ⟨b, _, rfl, h2, ht, ?_⟩))
    cases t
    simp only at h1 h5
    subst h1 h5
    rfl
  · rw [if_pos h1]
    refine (oneL_tag _ _ _).2 ((tagL_iff _ _ _).2 (.inl ⟨[], by simp, h2, by simp, ?_⟩))
    cases t
    simp only at h1 h3 h5
    subst h1 h3 h5
    rfl
  · exact absurd h1 h4
theorem txt_iff (c : UInt8) : txt c = true ↔ c ≠ 60 := by unfold txt; simp
/-- A text that is written is read as that, ahead of a tag or the end. -/
theorem oneL_text {t : Tk} (h : mayT t = true) (h4 : t.kind = 4) (r : List UInt8) (hr : ∀ c s, r = c :: s → c = 60) : oneL (writeT t ++ r) = some (t, r) := by
  unfold writeT
  rw [if_pos h4]
  rcases mayT_cases h with ⟨b, h1, _⟩ | ⟨h1, _⟩ | ⟨_, h1, h2, h3, h5⟩
  · rw [h4] at h1; cases b <;> cases h1
  · rw [h4] at h1; cases h1
  · have hl := (escL_len false t.text).1
    have hok := escL_ok false t.text
    have hsp := tw_app (p := txt) (a := escL false t.text) (b := r) (fun c hc => (txt_iff c).2 (hok c hc).1) (fun c s e => by rw [hr c s e]; rfl)
    cases he : escL false t.text with
    | nil =>
      rw [he] at hl
      exact absurd (List.eq_nil_of_length_eq_zero (Nat.le_zero.1 hl)) h3
    | cons c s =>
      have hc : c ≠ 60 := (hok c (by rw [he]; simp)).1
      rw [he] at hsp
      rw [List.cons_append] at hsp ⊢
      show (if c = 60 then _ else _) = _
      rw [if_neg hc, hsp.1, hsp.2, ← he, rd_esc]
      show some ((⟨4, [], [], t.text⟩ : Tk), r) = _
      cases t
      simp only at h4 h1 h2
      subst h4 h1 h2
      rfl
/-- What a text that begins with a token begins with. -/
theorem oneL_kind {l r : List UInt8} {t : Tk} (h : oneL l = some (t, r)) : (t.kind ≠ 4 ∧ ∃ s, l = 60 :: s ∧ tagL s = some (t, r)) ∨
    (t.kind = 4 ∧ l.head? ≠ some 60 ∧ ∃ a x, l = a ++ r ∧ a ≠ [] ∧ (∀ c ∈ a, c ≠ 60) ∧ rd a = some x ∧ t = ⟨4, [], [], x⟩ ∧ ∀ c s, r = c :: s → c = 60) := by
  cases l with
  | nil => cases h
  | cons c s =>
    by_cases hc : c = 60
    · subst hc
      have ht := (oneL_tag _ _ _).1 h
      left
      refine ⟨?_, s, rfl, ht⟩
      rcases (tagL_iff _ _ _).1 ht with ⟨g, _, _, _, e⟩ | ⟨b, y, _, _, _, e⟩
      · rw [e]; simp
      · rw [e]; cases b <;> simp
    · right
      unfold oneL at h
      dsimp only at h
      rw [if_neg hc] at h
      cases hr : rd ((c :: s).takeWhile txt) with
      | none => rw [hr] at h; cases h
      | some x =>
        rw [hr] at h
        obtain ⟨rfl, rfl⟩ := (Prod.mk.injEq _ _ _ _).mp (Option.some.inj h)
        obtain ⟨e1, e2, e3⟩ := tw_split txt (c :: s)
        refine ⟨rfl, by simpa using hc, _, x, e1, ?_, fun d hd => (txt_iff d).1 (e2 d hd), hr, rfl, fun d q e => ?_⟩
        · have : txt c = true := (txt_iff c).2 hc
          rw [List.takeWhile_cons, this]
          simp
        · have := e3 d q e
          unfold txt at this
          simpa using this
theorem oneL_app {l r : List UInt8} {t : Tk} (h : oneL l = some (t, r)) (z : List UInt8) (hz : t.kind ≠ 4 ∨ r ≠ [] ∨ ∀ c s, z = c :: s → c = 60) : oneL (l ++ z) = some (t, r ++ z) := by
  rcases oneL_kind h with ⟨h1, s, rfl, ht⟩ | ⟨h1, h2, a, x, rfl, h3, h4, h5, rfl, h6⟩
  · exact (oneL_tag _ _ _).2 (tagL_app ht z)
  · have hb : ∀ c s, r ++ z = c :: s → txt c = false := by
      intro c s e
      have : c = 60 := by
        cases r with
        | nil =>
          rcases hz with hz | hz | hz
          · exact absurd h1 hz
          · exact absurd rfl hz
          · exact hz c s e
        | cons d q =>
          obtain ⟨rfl, _⟩ := List.cons.inj e
          exact h6 d q rfl
      rw [this]; rfl
    have hsp := tw_app (p := txt) (a := a) (b := r ++ z) (fun c hc => (txt_iff c).2 (h4 c hc)) hb
    rw [List.append_assoc]
    cases a with
    | nil => exact absurd rfl h3
    | cons c s =>
      have hc : c ≠ 60 := h4 c (by simp)
      rw [List.cons_append] at hsp ⊢
      show (if c = 60 then _ else _) = _
      rw [if_neg hc, hsp.1, hsp.2, h5]
      rfl
/-- A text's tokens. -/
inductive LexI : List Tk → List UInt8 → Prop
  | nil : LexI [] []
  | cons (t : Tk) (ts : List Tk) (l r : List UInt8) : oneL l = some (t, r) → LexI ts r → LexI (t :: ts) l
theorem LexI.same {a b : List Tk} {l : List UInt8} (h : LexI a l) (k : LexI b l) : a = b := by
  induction h generalizing b with
  | nil =>
    cases k with
    | nil => rfl
    | cons t ts l r h1 h2 => cases h1
  | cons t ts l r h1 h2 ih =>
    cases k with
    | nil => cases h1
    | cons t' ts' _ r' k1 k2 =>
      rw [h1] at k1
      obtain ⟨rfl, rfl⟩ := (Prod.mk.injEq _ _ _ _).mp (Option.some.inj k1)
      rw [ih k2]
theorem LexI.len {a : List Tk} {l : List UInt8} (h : LexI a l) : a.length ≤ l.length := by
  induction h with
  | nil => exact Nat.le_refl _
  | cons t ts l r h1 h2 ih => have := oneL_len h1; rw [List.length_cons]; omega
theorem LexI.first {t : Tk} {a : List Tk} {l : List UInt8} (h : LexI (t :: a) l) (ht : t.kind ≠ 4) : ∀ c s, l = c :: s → c = 60 := by
  intro c s e
  cases h with
  | cons _ _ _ r h1 h2 =>
    rcases oneL_kind h1 with ⟨_, q, e2, _⟩ | ⟨h3, _⟩
    · rw [e2] at e
      exact (List.cons.inj e).1.symm
    · exact absurd h3 ht
/-- Two texts' tokens are both's, where not both have words at the cut. -/
theorem LexI.app {a b : List Tk} {l m : List UInt8} (h : LexI a l) (k : LexI b m) (hc : ∀ x y r s, a = r ++ [x] → b = y :: s → x.kind ≠ 4 ∨ y.kind ≠ 4) : LexI (a ++ b) (l ++ m) := by
  induction h with
  | nil => exact k
  | cons t ts l r h1 h2 ih =>
    have ih2 := ih (fun x y r s e1 e2 => hc x y (t :: r) s (by rw [e1]; rfl) e2)
    refine .cons t (ts ++ b) (l ++ m) (r ++ m) (oneL_app h1 m ?_) ih2
    by_cases ht : t.kind = 4
    · right
      by_cases hr : r = []
      · right
        subst hr
        have hts : ts = [] := by
          cases h2 with
          | nil => rfl
          | cons _ _ _ _ h3 _ => cases h3
        cases b with
        | nil =>
          cases k
          intro c s e
          cases e
        | cons y s =>
          rcases hc t y [] s (by rw [hts]; rfl) rfl with h3 | h3
          · exact absurd ht h3
          · exact k.first h3
      · exact .inl hr
    · exact .inl ht
theorem apart_tail {t : Tk} {l : List Tk} (h : apart (t :: l) = true) : apart l = true := by
  cases l with
  | nil => rfl
  | cons b r => unfold apart at h; rw [Bool.and_eq_true] at h; exact h.2
/-- What is written of tokens is read as these. -/
theorem LexI_write : ∀ (l : List Tk), (∀ t ∈ l, mayT t = true) → apart l = true → LexI l (l.flatMap writeT) := by
  intro l
  induction l with
  | nil => intro _ _; exact .nil
  | cons t l ih =>
    intro hm ha
    have i := ih (fun x hx => hm x (by simp [hx])) (apart_tail ha)
    rw [List.flatMap_cons]
    refine .cons t l _ (l.flatMap writeT) ?_ i
    by_cases h4 : t.kind = 4
    · refine oneL_text (hm t (by simp)) h4 _ fun c s e => ?_
      cases l with
      | nil => cases e
      | cons b r =>
        unfold apart at ha
        rw [Bool.and_eq_true] at ha
        refine i.first (fun hb => ?_) c s e
        rw [h4, hb] at ha
        exact absurd ha.1 (by decide)
    · exact oneL_write (hm t (by simp)) h4 _
theorem writeT_first {t : Tk} (h : mayT t = true) : writeT t ≠ [] := by
  unfold writeT
  by_cases h4 : t.kind = 4
  · rw [if_pos h4]
    rcases mayT_cases h with ⟨b, h1, _⟩ | ⟨h1, _⟩ | ⟨_, _, _, h3, _⟩
    · rw [h4] at h1; cases b <;> cases h1
    · rw [h4] at h1; cases h1
    · intro e
      have := (escL_len false t.text).1
      rw [e] at this
      exact h3 (List.eq_nil_of_length_eq_zero (Nat.le_zero.1 this))
  · rw [if_neg h4]
    by_cases h2 : t.kind = 2
    · rw [if_pos h2]; simp
    · rw [if_neg h2]; simp
/-- Signs alone are a text. -/
theorem isP_signs (l : List UInt8) (h : ∀ c ∈ l, c.toNat < 128 ∧ may (c.toNat : Int) = true) : isP l = true := by
  induction l with
  | nil => rfl
  | cons c l ih => exact isP_app (isP_one (h c (by simp)).1 (h c (by simp)).2) (ih fun x hx => h x (by simp [hx]))
theorem may_far {n : Nat} (h : 32 ≤ n) (h2 : n < 128) : may (n : Int) = true := by unfold may; rw [if_neg (by omega)]; simp; omega
theorem fullL_text {l : List UInt8} (h : fullL l = true) : isP l = true := isP_signs l fun c hc => by
  obtain ⟨_, _, _, _, _, _, _, h1, h2⟩ := wch_far (fullL_all h c hc)
  exact ⟨h1, may_far (by omega) h1⟩
theorem okT_text {l : List UInt8} (h : okT l = true) : isP l = true := by unfold okT at h; rw [Bool.and_eq_true] at h; exact h.2
theorem attrsF_text : ∀ (l acc : List Pr), attrsF acc l = true → isP (l.flatMap writeA) = true := by
  intro l
  induction l with
  | nil => intro _ _; rfl
  | cons p l ih =>
    intro acc h
    unfold attrsF at h
    simp only [Bool.and_eq_true] at h
    rw [List.flatMap_cons]
    refine isP_app ?_ (ih _ h.2)
    unfold writeA
    have e : (32 :: (p.name ++ 61 :: 34 :: (escL true p.value ++ [34])) : List UInt8) = [32] ++ (p.name ++ ([61, 34] ++ (escL true p.value ++ [34]))) := by simp
    rw [e]
    exact isP_app (by decide +kernel) (isP_app (fullL_text h.1.1.1) (isP_app (by decide +kernel) (isP_app (pts_esc true _ (okT_text h.1.2)) (by decide +kernel))))
theorem writeT_text {t : Tk} (h : mayT t = true) : isP (writeT t) = true := by
  unfold writeT
  rcases mayT_cases h with ⟨b, h1, h2, h3, h5⟩ | ⟨h1, h2, h3, h5⟩ | ⟨h1, _, _, _, h5⟩
  · have hk : t.kind ≠ 4 := by rw [h1]; cases b <;> decide
    have hk2 : t.kind ≠ 2 := by rw [h1]; cases b <;> decide
    have ha : attrsF [] t.attrs = true := by unfold attrsOk at h3; rw [Bool.and_eq_true] at h3; exact h3.1
    rw [if_neg hk, if_neg hk2]
    show isP ([60] ++ _) = true
    refine isP_app (by decide +kernel) (isP_app (fullL_text h2) (isP_app (attrsF_text _ _ ha) ?_))
    split <;> decide +kernel
  · rw [if_neg (by rw [h1]; decide), if_pos h1]
    show isP ([60, 47] ++ (t.name ++ [62])) = true
    exact isP_app (by decide +kernel) (isP_app (fullL_text h2) (by decide +kernel))
  · rw [if_pos h1]
    exact pts_esc false _ (okT_text h5)
theorem write_text (l : List Tk) (h : ∀ t ∈ l, mayT t = true) : isP (l.flatMap writeT) = true := by
  induction l with
  | nil => rfl
  | cons t l ih =>
    rw [List.flatMap_cons]
    exact isP_app (writeT_text (h t (by simp))) (ih fun x hx => h x (by simp [hx]))
end Lx
end Go.Proofs.Ytlfmjnocfkamaaa
