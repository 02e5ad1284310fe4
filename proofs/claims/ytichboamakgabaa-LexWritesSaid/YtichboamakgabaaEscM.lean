/-
  Plain facts on texts as they are written in XML: bytes as they are written, references, what is read.
-/
import Derived.Test.YtichboamakgabaaTextM
import Derived.Test.YtichboamakgabaaNumM
namespace Go.Proofs.Ytichboamakgabaa
namespace Es
open Go Tx Nmb
theorem u8_every (p : UInt8 → Prop) [DecidablePred p] (h : ∀ n : Fin 256, p (UInt8.ofNat n.val)) (c : UInt8) : p c := by
  have := h ⟨c.toNat, c.toNat_lt⟩
  simpa using this
/-- How a byte is written. -/
def escb (q : Bool) (c : UInt8) : List UInt8 :=
  if c = 38 then [38, 97, 109, 112, 59] else if c = 60 then [38, 108, 116, 59] else if c = 62 then [38, 103, 116, 59] else if c = 13 then [38, 35, 49, 51, 59]
  else if q = true ∧ c = 34 then [38, 113, 117, 111, 116, 59] else if q = true ∧ c = 9 then [38, 35, 57, 59] else if q = true ∧ c = 10 then [38, 35, 49, 48, 59] else [c]
/-- A text as it is written. -/
def escL (q : Bool) (l : List UInt8) : List UInt8 := l.flatMap (escb q)
theorem escL_nil (q : Bool) : escL q [] = [] := rfl
theorem escL_cons (q : Bool) (c : UInt8) (l : List UInt8) : escL q (c :: l) = escb q c ++ escL q l := by simp [escL]
theorem escL_app (q : Bool) (a b : List UInt8) : escL q (a ++ b) = escL q a ++ escL q b := by simp [escL]
theorem escL_snoc (q : Bool) (l : List UInt8) (c : UInt8) : escL q (l ++ [c]) = escL q l ++ escb q c := by simp [escL]
/-- What a hexadecimal digit tells. -/
def hxv (c : UInt8) : Option Nat := if 48 ≤ c.toNat ∧ c.toNat ≤ 57 then some (c.toNat - 48) else if 97 ≤ c.toNat ∧ c.toNat ≤ 102 then some (c.toNat - 87) else if 65 ≤ c.toNat ∧ c.toNat ≤ 70 then some (c.toNat - 55) else none
def hexF (l : List UInt8) : Option Nat := l.foldl (fun a c => a.bind fun n => (hxv c).map fun d => 16 * n + d) (some 0)
theorem hexF_snoc (l : List UInt8) (c : UInt8) : hexF (l ++ [c]) = (hexF l).bind fun n => (hxv c).map fun d => 16 * n + d := by simp [hexF]
def hexV (l : List UInt8) : Option Nat := if l = [] ∨ 6 < l.length ∨ l.head? = some 48 then none else hexF l
/-- The code point of a reference's number. -/
def numL (l : List UInt8) : Option Nat := ((match l with | 120 :: r => hexV r | _ => readN l)).filter fun n => may n
/-- What a reference's inside tells. -/
def meantL (l : List UInt8) : Option (List UInt8) :=
  if l = [97, 109, 112] then some [38] else if l = [108, 116] then some [60] else if l = [103, 116] then some [62] else if l = [113, 117, 111, 116] then some [34] else if l = [97, 112, 111, 115] then some [39]
  else match l with | 35 :: r => (numL r).map enc | _ => none
/-- What stands ahead of the first semicolon, and behind it. -/
def semi : List UInt8 → Option (List UInt8 × List UInt8)
  | [] => none
  | c :: r => if c = 59 then some ([], r) else (semi r).map fun p => (c :: p.1, p.2)
theorem semi_some : ∀ (l x r : List UInt8), semi l = some (x, r) → l = x ++ 59 :: r ∧ (59 : UInt8) ∉ x
  | [], x, r, h => by cases h
  | c :: l, x, r, h => by
    rw [semi] at h
    split at h
    · rename_i hc
      cases h
      exact ⟨by rw [hc]; rfl, by simp⟩
    · rename_i hc
      rw [Option.map_eq_some_iff] at h
      obtain ⟨⟨y, t⟩, h1, h2⟩ := h
      cases h2
      obtain ⟨e, hn⟩ := semi_some l y _ h1
      refine ⟨by rw [e]; rfl, ?_⟩
      intro hm
      rcases List.mem_cons.1 hm with h | h
      · exact hc h.symm
      · exact hn h
theorem semi_of (x r : List UInt8) (h : (59 : UInt8) ∉ x) : semi (x ++ 59 :: r) = some (x, r) := by
  induction x with
  | nil => simp [semi]
  | cons c x ih =>
    rw [List.cons_append, semi, if_neg (fun e => h (by simp [e])), ih (fun hm => h (by simp [hm]))]
    rfl
theorem semi_none (l : List UInt8) (h : (59 : UInt8) ∉ l) : semi l = none := by
  induction l with
  | nil => rfl
  | cons c l ih =>
    rw [semi, if_neg (fun e => h (by simp [e])), ih (fun hm => h (by simp [hm]))]
    rfl
/-- What is read, in so many steps at most. -/
def rdF : Nat → List UInt8 → Option (List UInt8)
  | _, [] => some []
  | 0, _ :: _ => none
  | f + 1, c :: r => if c = 60 then none else if c = 38 then (match semi r with
      | none => none
      | some (x, t) => match meantL x with
        | none => none
        | some y => (rdF f t).map (y ++ ·)) else (rdF f r).map (c :: ·)
def rd (l : List UInt8) : Option (List UInt8) := rdF l.length l
theorem rdF_same : ∀ (f g : Nat) (l : List UInt8), l.length ≤ f → l.length ≤ g → rdF f l = rdF g l
  | f, g, [], _, _ => by cases f <;> cases g <;> rfl
  | 0, g, c :: r, h, _ => by simp at h
  | f + 1, 0, c :: r, _, h => by simp at h
  | f + 1, g + 1, c :: r, h1, h2 => by
    simp only [List.length_cons] at h1 h2
    rw [rdF, rdF]
    by_cases h60 : c = 60
    · rw [if_pos h60, if_pos h60]
    · rw [if_neg h60, if_neg h60]
      by_cases h38 : c = 38
      · rw [if_pos h38, if_pos h38]
        cases hs : semi r with
        | none => rfl
        | some p =>
          obtain ⟨x, t⟩ := p
          have hl := congrArg List.length (semi_some r x t hs).1
          simp only [List.length_append, List.length_cons] at hl
          simp only
          rw [rdF_same f g t (by omega) (by omega)]
      · rw [if_neg h38, if_neg h38, rdF_same f g r (by omega) (by omega)]
theorem rd_nil : rd [] = some [] := rfl
theorem rd_bad (r : List UInt8) : rd (60 :: r) = none := by unfold rd; rw [List.length_cons, rdF, if_pos rfl]
theorem rd_byte (c : UInt8) (r : List UInt8) (h1 : c ≠ 60) (h2 : c ≠ 38) : rd (c :: r) = (rd r).map (c :: ·) := by
  unfold rd
  rw [List.length_cons, rdF, if_neg h1, if_neg h2]
theorem rd_amp (r : List UInt8) : rd (38 :: r) = match semi r with
    | none => none
    | some (x, t) => match meantL x with
      | none => none
      | some y => (rd t).map (y ++ ·) := by
  unfold rd
  rw [List.length_cons, rdF, if_neg (by decide), if_pos rfl]
  cases hs : semi r with
  | none => rfl
  | some p =>
    obtain ⟨x, t⟩ := p
    have hl := congrArg List.length (semi_some r x t hs).1
    simp only [List.length_append, List.length_cons] at hl
    simp only
    rw [rdF_same r.length t.length t (by omega) (Nat.le_refl _)]
theorem rd_app : ∀ (n : Nat) (a b z : List UInt8), a.length ≤ n → rd a = some z → rd (a ++ b) = (rd b).map (z ++ ·)
  | n, [], b, z, _, h => by
    cases h
    simp
  | 0, c :: a, b, z, h, _ => by simp at h
  | n + 1, c :: a, b, z, hn, h => by
    simp only [List.length_cons] at hn
    rw [List.cons_append]
    by_cases h60 : c = 60
    · subst h60; rw [rd_bad] at h; cases h
    · by_cases h38 : c = 38
      · subst h38
        rw [rd_amp] at h ⊢
        cases hs : semi a with
        | none => rw [hs] at h; cases h
        | some p =>
          obtain ⟨x, t⟩ := p
          obtain ⟨e, hx⟩ := semi_some a x t hs
          rw [hs] at h
          have e2 : semi (a ++ b) = some (x, t ++ b) := by rw [e, List.append_assoc]; exact semi_of x (t ++ b) hx
          rw [e2]
          simp only at h ⊢
          cases hm : meantL x with
          | none => rw [hm] at h; cases h
          | some y =>
            rw [hm] at h
            simp only at h ⊢
            rw [Option.map_eq_some_iff] at h
            obtain ⟨u, hu, rfl⟩ := h
            have hl := congrArg List.length e
            simp only [List.length_append, List.length_cons] at hl
            rw [rd_app n t b u (by omega) hu]
            cases rd b <;> simp
      · rw [rd_byte c a h60 h38] at h
        rw [rd_byte c (a ++ b) h60 h38]
        rw [Option.map_eq_some_iff] at h
        obtain ⟨u, hu, rfl⟩ := h
        rw [rd_app n a b u (by omega) hu]
        cases rd b <;> simp
theorem rd_append (a b z : List UInt8) (h : rd a = some z) : rd (a ++ b) = (rd b).map (z ++ ·) := rd_app a.length a b z (Nat.le_refl _) h
theorem rd_escb (q : Bool) (c : UInt8) : rd (escb q c) = some [c] := by
  cases q
  · exact u8_every (fun c => rd (escb false c) = some [c]) (by decide +kernel) c
  · exact u8_every (fun c => rd (escb true c) = some [c]) (by decide +kernel) c
/-- What is written is read as that text. -/
theorem rd_esc (q : Bool) (l : List UInt8) : rd (escL q l) = some l := by
  induction l with
  | nil => rfl
  | cons c l ih =>
    rw [escL_cons, rd_append _ _ _ (rd_escb q c), ih]
    rfl
/-- The bytes that are written. -/
theorem escb_ok (q : Bool) (c : UInt8) : ∀ x ∈ escb q c, x ≠ 60 ∧ x ≠ 62 ∧ x ≠ 13 ∧ (q = true → x ≠ 34 ∧ x ≠ 9 ∧ x ≠ 10) := by
  cases q
  · exact u8_every (fun c => ∀ x ∈ escb false c, x ≠ 60 ∧ x ≠ 62 ∧ x ≠ 13 ∧ (false = true → x ≠ 34 ∧ x ≠ 9 ∧ x ≠ 10)) (by decide +kernel) c
  · exact u8_every (fun c => ∀ x ∈ escb true c, x ≠ 60 ∧ x ≠ 62 ∧ x ≠ 13 ∧ (true = true → x ≠ 34 ∧ x ≠ 9 ∧ x ≠ 10)) (by decide +kernel) c
theorem escL_ok (q : Bool) (l : List UInt8) : ∀ x ∈ escL q l, x ≠ 60 ∧ x ≠ 62 ∧ x ≠ 13 ∧ (q = true → x ≠ 34 ∧ x ≠ 9 ∧ x ≠ 10) := by
  intro x hx
  unfold escL at hx
  rw [List.mem_flatMap] at hx
  obtain ⟨c, _, hc⟩ := hx
  exact escb_ok q c x hc
theorem escb_len (q : Bool) (c : UInt8) : 1 ≤ (escb q c).length ∧ (escb q c).length ≤ 6 := by
  cases q
  · exact u8_every (fun c => 1 ≤ (escb false c).length ∧ (escb false c).length ≤ 6) (by decide +kernel) c
  · exact u8_every (fun c => 1 ≤ (escb true c).length ∧ (escb true c).length ≤ 6) (by decide +kernel) c
theorem escL_len (q : Bool) (l : List UInt8) : l.length ≤ (escL q l).length ∧ (escL q l).length ≤ 6 * l.length := by
  induction l with
  | nil => simp [escL]
  | cons c l ih =>
    have := escb_len q c
    rw [escL_cons, List.length_append, List.length_cons]
    omega
/-- The code points of what is written. -/
def escn (q : Bool) (n : Nat) : List Nat := if n < 128 then (escb q (bt n)).map UInt8.toNat else [n]
theorem escb_far (q : Bool) (c : UInt8) (h : 128 ≤ c.toNat) : escb q c = [c] := by
  cases q
  · exact u8_every (fun c => 128 ≤ c.toNat → escb false c = [c]) (by decide +kernel) c h
  · exact u8_every (fun c => 128 ≤ c.toNat → escb true c = [c]) (by decide +kernel) c h
theorem escb_near (q : Bool) (c : UInt8) (h : c.toNat < 128) : ∀ x ∈ escb q c, x.toNat < 128 ∧ (may (c.toNat : Int) = true → may (x.toNat : Int) = true) := by
  cases q
  · exact u8_every (fun c => c.toNat < 128 → ∀ x ∈ escb false c, x.toNat < 128 ∧ (may (c.toNat : Int) = true → may (x.toNat : Int) = true)) (by decide +kernel) c h
  · exact u8_every (fun c => c.toNat < 128 → ∀ x ∈ escb true c, x.toNat < 128 ∧ (may (c.toNat : Int) = true → may (x.toNat : Int) = true)) (by decide +kernel) c h
theorem encs_near (l : List UInt8) (h : ∀ x ∈ l, x.toNat < 128) : encs (l.map UInt8.toNat) = l := by
  induction l with
  | nil => rfl
  | cons c l ih =>
    rw [List.map_cons, encs_cons, ih (fun x hx => h x (by simp [hx]))]
    have : enc c.toNat = [c] := by unfold enc; rw [if_pos (h c (by simp)), bt_of c _ rfl]
    rw [this]
    rfl
theorem enc_far (n : Nat) (h : 128 ≤ n) (hs : sv n = true) : ∀ x ∈ enc n, 128 ≤ x.toNat := by
  have hb := sv_le hs
  unfold enc
  rw [if_neg (by omega)]
  intro x hx
  split at hx
  · simp only [List.mem_cons, List.not_mem_nil, or_false] at hx
    rcases hx with rfl | rfl <;> rw [bt_nat _ (by omega)] <;> omega
  · split at hx
    · simp only [List.mem_cons, List.not_mem_nil, or_false] at hx
      rcases hx with rfl | rfl | rfl <;> rw [bt_nat _ (by omega)] <;> omega
    · simp only [List.mem_cons, List.not_mem_nil, or_false] at hx
      rcases hx with rfl | rfl | rfl | rfl <;> rw [bt_nat _ (by omega)] <;> omega
theorem escL_far (q : Bool) (l : List UInt8) (h : ∀ x ∈ l, 128 ≤ x.toNat) : escL q l = l := by
  induction l with
  | nil => rfl
  | cons c l ih => rw [escL_cons, escb_far q c (h c (by simp)), ih (fun x hx => h x (by simp [hx]))]; rfl
theorem esc_enc (q : Bool) (n : Nat) (hs : sv n = true) : escL q (enc n) = encs (escn q n) := by
  unfold escn
  by_cases h : n < 128
  · rw [if_pos h]
    have hb : (bt n).toNat = n := bt_nat n (by omega)
    have e : enc n = [bt n] := by unfold enc; rw [if_pos h]
    rw [e, escL_cons, escL_nil, List.append_nil, encs_near _ (fun x hx => (escb_near q (bt n) (by omega) x hx).1)]
  · rw [if_neg h, escL_far q _ (enc_far n (by omega) hs), encs_cons, encs_nil, List.append_nil]
theorem escn_may (q : Bool) (n : Nat) (h : may (n : Int) = true) : mays (escn q n) := by
  unfold escn
  by_cases h1 : n < 128
  · rw [if_pos h1]
    have hb : (bt n).toNat = n := bt_nat n (by omega)
    intro x hx
    obtain ⟨y, hy, rfl⟩ := List.mem_map.1 hx
    exact (escb_near q (bt n) (by omega) y hy).2 (by rw [hb]; exact h)
  · rw [if_neg h1]
    intro x hx
    rw [List.mem_singleton] at hx
    subst hx
    exact h
theorem esc_encs (q : Bool) (ns : List Nat) (h : mays ns) : escL q (encs ns) = encs (ns.flatMap (escn q)) ∧ mays (ns.flatMap (escn q)) := by
  induction ns with
  | nil => exact ⟨rfl, mays_nil⟩
  | cons n ns ih =>
    rw [mays_cons] at h
    obtain ⟨i1, i2⟩ := ih h.2
    refine ⟨?_, ?_⟩
    · rw [encs_cons, escL_app, esc_enc q n (nat_sv h.1), i1, List.flatMap_cons, encs_append]
    · rw [List.flatMap_cons, mays_append]
      exact ⟨escn_may q n h.1, i2⟩
/-- What is written of a text is a text. -/
theorem pts_esc (q : Bool) (l : List UInt8) (h : (pts l).isSome = true) : (pts (escL q l)).isSome = true := by
  obtain ⟨ns, hns⟩ := Option.isSome_iff_exists.1 h
  obtain ⟨e, hm⟩ := (pts_iff l ns).1 hns
  obtain ⟨e2, hm2⟩ := esc_encs q ns hm
  rw [e, e2, pts_encs hm2]
  rfl
theorem pts_app {a b : List UInt8} (ha : (pts a).isSome = true) (hb : (pts b).isSome = true) : (pts (a ++ b)).isSome = true := by
  obtain ⟨na, h1⟩ := Option.isSome_iff_exists.1 ha
  obtain ⟨nb, h2⟩ := Option.isSome_iff_exists.1 hb
  obtain ⟨e1, m1⟩ := (pts_iff a na).1 h1
  obtain ⟨e2, m2⟩ := (pts_iff b nb).1 h2
  rw [e1, e2, ← encs_append, pts_encs (mays_append.2 ⟨m1, m2⟩)]
  rfl
end Es
end Go.Proofs.Ytichboamakgabaa
