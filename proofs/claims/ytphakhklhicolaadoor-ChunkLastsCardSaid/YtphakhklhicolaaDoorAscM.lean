/-
  Plain facts on ASCII texts: small letters, blanks, tokens, lists of parts.
-/
import GoSem.Core.Utf8
namespace Go.Proofs.YtphakhklhicolaaDoor
namespace As
open Go
/-- The small letter of a great one; all else stays. -/
def low (c : UInt8) : UInt8 := if 65 ≤ c.toNat ∧ c.toNat ≤ 90 then c + 32 else c
theorem low_nat (c : UInt8) : (low c).toNat = if 65 ≤ c.toNat ∧ c.toNat ≤ 90 then c.toNat + 32 else c.toNat := by
  unfold low
  split
  · rw [UInt8.toNat_add]
    have := c.toNat_lt
    show (c.toNat + 32) % 256 = _
    omega
  · rfl
theorem low_low (c : UInt8) : low (low c) = low c := by
  apply UInt8.toNat_inj.1
  rw [low_nat (low c), low_nat c]
  by_cases h : 65 ≤ c.toNat ∧ c.toNat ≤ 90
  · rw [if_pos h, if_neg (by omega)]
  · rw [if_neg h, if_neg h]
def lows (l : List UInt8) : List UInt8 := l.map low
theorem lows_length (l : List UInt8) : (lows l).length = l.length := by simp [lows]
theorem lows_lows (l : List UInt8) : lows (lows l) = lows l := by simp [lows, low_low]
/-- A blank. -/
def blk (c : UInt8) : Bool := decide (c.toNat = 32) || decide (c.toNat = 9)
/-- Without the blanks at the beginning; at the end; at both. -/
def trimL (l : List UInt8) : List UInt8 := l.dropWhile blk
def trimR (l : List UInt8) : List UInt8 := (l.reverse.dropWhile blk).reverse
def trim (l : List UInt8) : List UInt8 := trimR (trimL l)
/-- A token's byte. -/
def tokb (c : UInt8) : Bool := (decide (97 ≤ c.toNat) && decide (c.toNat ≤ 122)) || (decide (65 ≤ c.toNat) && decide (c.toNat ≤ 90)) || (decide (48 ≤ c.toNat) && decide (c.toNat ≤ 57)) ||
  [33, 35, 36, 37, 38, 39, 42, 43, 45, 46, 94, 95, 96, 124, 126].contains c.toNat
def isTok (l : List UInt8) : Bool := l.all tokb && !l.isEmpty
def plb (c : UInt8) : Bool := !((decide (c.toNat ≠ 9) && decide (c.toNat < 32)) || decide (c.toNat = 127))
def plain (l : List UInt8) : Bool := l.all plb
theorem u8_all (p : UInt8 → Prop) [DecidablePred p] (h : ∀ n : Fin 256, p (UInt8.ofNat n.val)) (c : UInt8) : p c := by
  have := h ⟨c.toNat, c.toNat_lt⟩
  simpa using this
theorem tokb_low (c : UInt8) : tokb (low c) = tokb c := u8_all (fun c => tokb (low c) = tokb c) (by decide +kernel) c
theorem tok_lows (l : List UInt8) : isTok (lows l) = isTok l := by
  unfold isTok lows
  rw [List.all_map]
  congr 1
  · congr 1
    funext c
    exact tokb_low c
  · cases l <;> rfl
theorem plb_blk (c : UInt8) (h : blk c = true) : plb c = true := u8_all (fun c => blk c = true → plb c = true) (by decide +kernel) c h
theorem blk_comma : blk 44 = false := by decide

theorem dropW_split (p : UInt8 → Bool) (l : List UInt8) : ∃ a, l = a ++ l.dropWhile p ∧ a.all p = true := by
  refine ⟨l.takeWhile p, List.takeWhile_append_dropWhile.symm, ?_⟩
  rw [List.all_eq_true]
  intro x hx
  induction l with
  | nil => simp at hx
  | cons y l ih =>
    rw [List.takeWhile_cons] at hx
    split at hx
    · rename_i h
      rcases List.mem_cons.1 hx with rfl | hx
      · exact h
      · exact ih hx
    · simp at hx
theorem trimL_split (l : List UInt8) : ∃ a, l = a ++ trimL l ∧ a.all blk = true := dropW_split blk l
theorem trimR_split (l : List UInt8) : ∃ b, l = trimR l ++ b ∧ b.all blk = true := by
  obtain ⟨a, h, ha⟩ := dropW_split blk l.reverse
  refine ⟨a.reverse, ?_, by simpa using ha⟩
  have := congrArg List.reverse h
  rw [List.reverse_reverse, List.reverse_append] at this
  exact this
theorem trim_split (l : List UInt8) : ∃ a b, l = a ++ trim l ++ b ∧ a.all blk = true ∧ b.all blk = true := by
  obtain ⟨a, h1, ha⟩ := trimL_split l
  obtain ⟨b, h2, hb⟩ := trimR_split (trimL l)
  refine ⟨a, b, ?_, ha, hb⟩
  rw [List.append_assoc]
  unfold trim
  rw [← h2]
  exact h1
/-- It begins with no blank. -/
def headOk (l : List UInt8) : Prop := ∀ c r, l = c :: r → blk c = false
def lastOk (l : List UInt8) : Prop := ∀ c r, l = r ++ [c] → blk c = false
theorem dropW_head (p : UInt8 → Bool) (l : List UInt8) : ∀ c r, l.dropWhile p = c :: r → p c = false := by
  induction l with
  | nil => intro c r h; simp at h
  | cons y l ih =>
    intro c r h
    rw [List.dropWhile_cons] at h
    split at h
    · exact ih c r h
    · rename_i hy
      cases h
      simpa using hy
theorem trimL_head (l : List UInt8) : headOk (trimL l) := dropW_head blk l
theorem trimR_last (l : List UInt8) : lastOk (trimR l) := by
  intro c r h
  refine dropW_head blk l.reverse c r.reverse ?_
  have := congrArg List.reverse h
  unfold trimR at this
  rw [List.reverse_reverse, List.reverse_append] at this
  exact this
theorem trim_last (l : List UInt8) : lastOk (trim l) := trimR_last _
theorem trim_head (l : List UInt8) : headOk (trim l) := by
  intro c r h
  obtain ⟨b, h2, _⟩ := trimR_split (trimL l)
  unfold trim at h
  rw [h] at h2
  exact trimL_head l c (r ++ b) (by rw [h2]; rfl)
theorem trimL_id (l : List UInt8) (h : headOk l) : trimL l = l := by
  cases l with
  | nil => rfl
  | cons c r =>
    unfold trimL
    rw [List.dropWhile_cons, h c r rfl]
    rfl
theorem trimR_id (l : List UInt8) (h : lastOk l) : trimR l = l := by
  unfold trimR
  have : l.reverse.dropWhile blk = l.reverse := trimL_id l.reverse (by
    intro c r hc
    refine h c r.reverse ?_
    have := congrArg List.reverse hc
    simpa using this)
  rw [this, List.reverse_reverse]
theorem trim_id (l : List UInt8) (h1 : headOk l) (h2 : lastOk l) : trim l = l := by
  unfold trim
  rw [trimL_id l h1, trimR_id l h2]
theorem trim_trim (l : List UInt8) : trim (trim l) = trim l := trim_id _ (trim_head l) (trim_last l)
theorem trimL_pre (a l : List UInt8) (h : a.all blk = true) : trimL (a ++ l) = trimL l := by
  induction a with
  | nil => rfl
  | cons c a ih =>
    rw [List.all_cons, Bool.and_eq_true] at h
    unfold trimL
    rw [List.cons_append, List.dropWhile_cons, h.1]
    exact ih h.2
theorem trimR_suf (l b : List UInt8) (h : b.all blk = true) : trimR (l ++ b) = trimR l := by
  unfold trimR
  rw [List.reverse_append]
  congr 1
  exact trimL_pre b.reverse l.reverse (by simpa using h)
/-- What is trimmed, told by its parts. -/
theorem trim_of (a x b : List UInt8) (ha : a.all blk = true) (hb : b.all blk = true) (h1 : headOk x) (h2 : lastOk x) : trim (a ++ x ++ b) = x := by
  unfold trim
  rw [List.append_assoc, trimL_pre a _ ha]
  by_cases hx : x = []
  · subst hx
    rw [List.nil_append]
    have : trimL b = [] := by
      have := trimL_pre b [] hb
      rw [List.append_nil] at this
      exact this
    rw [this]
    rfl
  · have : headOk (x ++ b) := by
      intro c r hc
      cases x with
      | nil => exact absurd rfl hx
      | cons y x =>
        cases hc
        exact h1 _ _ rfl
    rw [trimL_id _ this, trimR_suf x b hb, trimR_id x h2]
theorem trim_blank (a : List UInt8) (h : a.all blk = true) : trim a = [] := by
  have := trim_of a [] [] h rfl (fun _ _ h => by cases h) (fun _ r h => by cases r <;> cases h)
  simpa using this
theorem trim_len (l : List UInt8) : (trim l).length ≤ l.length := by
  obtain ⟨a, b, h, _, _⟩ := trim_split l
  have := congrArg List.length h
  simp at this
  omega
theorem all_pl (a : List UInt8) (h : a.all blk = true) : a.all plb = true := by
  rw [List.all_eq_true] at *
  exact fun x hx => plb_blk x (h x hx)
theorem plain_trim (l : List UInt8) : plain (trim l) = plain l := by
  obtain ⟨a, b, h, ha, hb⟩ := trim_split l
  conv => rhs; rw [h]
  unfold plain
  rw [List.all_append, List.all_append, all_pl a ha, all_pl b hb]
  simp
theorem lows_nil (l : List UInt8) : lows l = [] ↔ l = [] := by simp [lows]

/-- What stands between commas. -/
def cutF (cur : List UInt8) : List UInt8 → List (List UInt8)
  | [] => [cur]
  | c :: r => if c.toNat = 44 then cur :: cutF [] r else cutF (cur ++ [c]) r
def cut (l : List UInt8) : List (List UInt8) := cutF [] l
/-- A part that counts, with small letters. -/
def aPart (x : List UInt8) : Option (List UInt8) := if trim x = [] then none else some (lows (trim x))
def parts (l : List UInt8) : List (List UInt8) := (cut l).filterMap aPart
theorem cutF_app (a b : List UInt8) : ∀ cur, cutF cur (a ++ 44 :: b) = cutF cur a ++ cut b := by
  induction a with
  | nil => intro cur; simp [cutF, cut]
  | cons c a ih =>
    intro cur
    rw [List.cons_append, cutF, cutF]
    split
    · rw [ih, List.cons_append]
    · rw [ih]
theorem parts_app (a b : List UInt8) : parts (a ++ 44 :: b) = parts a ++ parts b := by
  unfold parts cut
  rw [cutF_app, List.filterMap_append]
  rfl
def noComma (l : List UInt8) : Prop := ∀ c ∈ l, c.toNat ≠ 44
theorem cutF_one (l : List UInt8) : ∀ cur, noComma l → cutF cur l = [cur ++ l] := by
  induction l with
  | nil => intro cur _; simp [cutF]
  | cons c l ih =>
    intro cur h
    rw [cutF, if_neg (h c (by simp)), ih _ (fun x hx => h x (by simp [hx]))]
    simp
theorem parts_one (l : List UInt8) (h : noComma l) : parts l = (aPart l).toList := by
  unfold parts cut
  rw [cutF_one l [] h, List.nil_append]
  cases hp : aPart l <;> simp [hp]
theorem blank_noComma (a : List UInt8) (h : a.all blk = true) : noComma a := by
  intro c hc hn
  rw [List.all_eq_true] at h
  have := h c hc
  simp [blk] at this
  omega
theorem parts_blank (a : List UInt8) (h : a.all blk = true) : parts a = [] := by
  rw [parts_one a (blank_noComma a h), aPart, if_pos (trim_blank a h)]
  rfl
theorem tokb_blk (c : UInt8) (h : tokb c = true) : blk c = false := u8_all (fun c => tokb c = true → blk c = false) (by decide +kernel) c h
theorem tokb_comma (c : UInt8) (h : tokb c = true) : c.toNat ≠ 44 := u8_all (fun c => tokb c = true → c.toNat ≠ 44) (by decide +kernel) c h
theorem tok_all {x : List UInt8} (h : isTok x = true) : (∀ c ∈ x, tokb c = true) ∧ x ≠ [] := by
  unfold isTok at h
  rw [Bool.and_eq_true, List.all_eq_true] at h
  refine ⟨h.1, ?_⟩
  rintro rfl
  exact absurd h.2 (by decide)
/-- A token of small letters between blanks is that part. -/
theorem parts_tok (a x b : List UInt8) (ha : a.all blk = true) (hb : b.all blk = true) (hx : isTok x = true) (hl : lows x = x) : parts (a ++ x ++ b) = [x] := by
  obtain ⟨h1, h2⟩ := tok_all hx
  have ht : trim (a ++ x ++ b) = x := by
    refine trim_of a x b ha hb ?_ ?_
    · rintro c r rfl
      exact tokb_blk c (h1 c (by simp))
    · rintro c r rfl
      exact tokb_blk c (h1 c (by simp))
  rw [parts_one]
  · rw [aPart, ht, if_neg h2, hl]
    rfl
  · intro c hc
    rw [List.mem_append, List.mem_append] at hc
    rcases hc with (hc | hc) | hc
    · exact blank_noComma a ha c hc
    · exact tokb_comma c (h1 c hc)
    · exact blank_noComma b hb c hc
/-- Each part has small letters. -/
theorem parts_low (l x : List UInt8) (h : x ∈ parts l) : lows x = x := by
  unfold parts at h
  rw [List.mem_filterMap] at h
  obtain ⟨y, _, hy⟩ := h
  unfold aPart at hy
  split at hy
  · cases hy
  · cases hy
    exact lows_lows _
/-- The list, and the error. -/
def listE (l : List UInt8) : Nat := if 16 < (parts l).length then 4 else if (parts l).all isTok then 0 else 8
theorem listE_ok {l : List UInt8} (h : listE l = 0) : (parts l).length ≤ 16 ∧ ∀ x ∈ parts l, isTok x = true ∧ lows x = x := by
  unfold listE at h
  split at h
  · cases h
  · rename_i h1
    split at h
    · rename_i h2
      rw [List.all_eq_true] at h2
      exact ⟨by omega, fun x hx => ⟨h2 x hx, parts_low l x hx⟩⟩
    · cases h
theorem listE_app (a b : List UInt8) (ha : listE a = 0) (hb : listE b = 0) : listE (a ++ 44 :: b) = if 16 < (parts a).length + (parts b).length then 4 else 0 := by
  have h1 := (listE_ok ha).2
  have h2 := (listE_ok hb).2
  unfold listE
  rw [parts_app, List.length_append]
  split
  · rfl
  · rw [if_pos]
    rw [List.all_eq_true]
    intro x hx
    rcases List.mem_append.1 hx with h | h
    · exact (h1 x h).1
    · exact (h2 x h).1
/-- What a list is put together as: a blank, a comma; then each part between blanks, with a comma behind. -/
def tog : List (List UInt8) → List UInt8
  | [] => []
  | x :: r => 9 :: (x ++ [32, 44, 32]) ++ tog r
theorem tog_snoc (l : List (List UInt8)) (x : List UInt8) : tog (l ++ [x]) = tog l ++ (9 :: (x ++ [32, 44, 32])) := by
  induction l with
  | nil => simp [tog]
  | cons y l ih => simp [tog, ih]
theorem parts_tog : ∀ (l : List (List UInt8)) (a : List UInt8), a.all blk = true → (∀ x ∈ l, isTok x = true ∧ lows x = x) → parts (a ++ tog l) = l
  | [], a, ha, _ => by rw [tog, List.append_nil, parts_blank a ha]
  | x :: l, a, ha, h => by
    have e : a ++ tog (x :: l) = ((a ++ [9]) ++ x ++ [32]) ++ 44 :: ([32] ++ tog l) := by simp [tog]
    obtain ⟨hx, hl⟩ := h x (by simp)
    rw [e, parts_app, parts_tok (a ++ [9]) x [32] (by rw [List.all_append, ha]; decide) (by decide) hx hl, parts_tog l [32] (by decide) (fun y hy => h y (by simp [hy]))]
    rfl
theorem parts_all (l : List (List UInt8)) (h : ∀ x ∈ l, isTok x = true ∧ lows x = x) : parts ([32, 44] ++ tog l) = l := by
  have e : [32, 44] ++ tog l = [32] ++ 44 :: ([] ++ tog l) := by simp
  rw [e, parts_app, parts_blank [32] (by decide), parts_tog l [] (by decide) h]
  rfl
theorem listE_tog (l : List (List UInt8)) (h : ∀ x ∈ l, isTok x = true ∧ lows x = x) (hn : l.length ≤ 16) : listE ([32, 44] ++ tog l) = 0 := by
  unfold listE
  rw [parts_all l h, if_neg (by omega), if_pos]
  rw [List.all_eq_true]
  exact fun x hx => (h x hx).1
end As
end Go.Proofs.YtphakhklhicolaaDoor
