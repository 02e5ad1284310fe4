/-
  Texts of one seat, put together: AscM, Mem, WordM, MemG.
-/
import GoSem.Core.Utf8
import Derived.Test.YtfdhogaknlabkaaRows
import Derived.WalkKit
import Derived.WalkSpells
import Derived.WalkLawsBesides
import Derived.Lib.OthersKept
import Derived.WalkSmall
import Derived.Lib.Hide
import Derived.Laws.BytesArg
import Derived.Laws.IdiomStrings
import Derived.Laws.AppendOwnNone
import Derived.ProofKit
import Derived.OpenShut
import Derived.ShutString
import Derived.ChangeOld
import Derived.Below
import Derived.Laws.BitsAllLaws
import Derived.Deep.AppendLies
set_option linter.unusedSimpArgs false
set_option linter.unusedVariables false
namespace Go.Proofs.Ytfdhogaknlabkaa
namespace As
open Go
/-- The small letter of a great one; all else stays. -/
def low (c : UInt8) : UInt8 := if 65 ≤ c.toNat ∧ c.toNat ≤ 90 then c + 32 else c
theorem low_nat (c : UInt8) : (low c).toNat = if 65 ≤ c.toNat ∧ c.toNat ≤ 90 then c.toNat + 32 else c.toNat := by
  unfold low
  split
  · rw [UInt8.toNat_add]
    have := c.toNat_lt
    show (c.toNat + 32) % 256 = _
    omega
  · rfl
theorem low_low (c : UInt8) : low (low c) = low c := by
  apply UInt8.toNat_inj.1
  rw [low_nat (low c), low_nat c]
  by_cases h : 65 ≤ c.toNat ∧ c.toNat ≤ 90
  · rw [if_pos h, if_neg (by omega)]
  · rw [if_neg h, if_neg h]
def lows (l : List UInt8) : List UInt8 := l.map low
theorem lows_length (l : List UInt8) : (lows l).length = l.length := by simp [lows]
theorem lows_lows (l : List UInt8) : lows (lows l) = lows l := by simp [lows, low_low]
/-- A blank. -/
def blk (c : UInt8) : Bool := decide (c.toNat = 32) || decide (c.toNat = 9)
/-- Without the blanks at the beginning; at the end; at both. -/
def trimL (l : List UInt8) : List UInt8 := l.dropWhile blk
def trimR (l : List UInt8) : List UInt8 := (l.reverse.dropWhile blk).reverse
def trim (l : List UInt8) : List UInt8 := trimR (trimL l)
/-- A token's byte. -/
def tokb (c : UInt8) : Bool := (decide (97 ≤ c.toNat) && decide (c.toNat ≤ 122)) || (decide (65 ≤ c.toNat) && decide (c.toNat ≤ 90)) || (decide (48 ≤ c.toNat) && decide (c.toNat ≤ 57)) ||
  [33, 35, 36, 37, 38, 39, 42, 43, 45, 46, 94, 95, 96, 124, 126].contains c.toNat
def isTok (l : List UInt8) : Bool := l.all tokb && !l.isEmpty
def plb (c : UInt8) : Bool := !((decide (c.toNat ≠ 9) && decide (c.toNat < 32)) || decide (c.toNat = 127))
def plain (l : List UInt8) : Bool := l.all plb
theorem u8_all (p : UInt8 → Prop) [DecidablePred p] (h : ∀ n : Fin 256, p (UInt8.ofNat n.val)) (c : UInt8) : p c := by
  have := h ⟨c.toNat, c.toNat_lt⟩
  simpa using this
theorem tokb_low (c : UInt8) : tokb (low c) = tokb c := u8_all (fun c => tokb (low c) = tokb c) (by decide +kernel) c
theorem tok_lows (l : List UInt8) : isTok (lows l) = isTok l := by
  unfold isTok lows
  rw [List.all_map]
  congr 1
  · congr 1
    funext c
    exact tokb_low c
  · cases l <;> rfl
theorem plb_blk (c : UInt8) (h : blk c = true) : plb c = true := u8_all (fun c => blk c = true → plb c = true) (by decide +kernel) c h
theorem blk_comma : blk 44 = false := by decide

theorem dropW_split (p : UInt8 → Bool) (l : List UInt8) : ∃ a, l = a ++ l.dropWhile p ∧ a.all p = true := by
  refine ⟨l.takeWhile p, List.takeWhile_append_dropWhile.symm, ?_⟩
  rw [List.all_eq_true]
  intro x hx
  induction l with
  | nil => simp at hx
  | cons y l ih =>
    rw [List.takeWhile_cons] at hx
    split at hx
    · rename_i h
      rcases List.mem_cons.1 hx with rfl | hx
      · exact h
      · exact ih hx
    · simp at hx
theorem trimL_split (l : List UInt8) : ∃ a, l = a ++ trimL l ∧ a.all blk = true := dropW_split blk l
theorem trimR_split (l : List UInt8) : ∃ b, l = trimR l ++ b ∧ b.all blk = true := by
  obtain ⟨a, h, ha⟩ := dropW_split blk l.reverse
  refine ⟨a.reverse, ?_, by simpa using ha⟩
  have := congrArg List.reverse h
  rw [List.reverse_reverse, List.reverse_append] at this
  exact this
theorem trim_split (l : List UInt8) : ∃ a b, l = a ++ trim l ++ b ∧ a.all blk = true ∧ b.all blk = true := by
  obtain ⟨a, h1, ha⟩ := trimL_split l
  obtain ⟨b, h2, hb⟩ := trimR_split (trimL l)
  refine ⟨a, b, ?_, ha, hb⟩
  rw [List.append_assoc]
  unfold trim
  rw [← h2]
  exact h1
/-- It begins with no blank. -/
def headOk (l : List UInt8) : Prop := ∀ c r, l = c :: r → blk c = false
def lastOk (l : List UInt8) : Prop := ∀ c r, l = r ++ [c] → blk c = false
theorem dropW_head (p : UInt8 → Bool) (l : List UInt8) : ∀ c r, l.dropWhile p = c :: r → p c = false := by
  induction l with
  | nil => intro c r h; simp at h
  | cons y l ih =>
    intro c r h
    rw [List.dropWhile_cons] at h
    split at h
    · exact ih c r h
    · rename_i hy
      cases h
      simpa using hy
theorem trimL_head (l : List UInt8) : headOk (trimL l) := dropW_head blk l
theorem trimR_last (l : List UInt8) : lastOk (trimR l) := by
  intro c r h
  refine dropW_head blk l.reverse c r.reverse ?_
  have := congrArg List.reverse h
  unfold trimR at this
  rw [List.reverse_reverse, List.reverse_append] at this
  exact this
theorem trim_last (l : List UInt8) : lastOk (trim l) := trimR_last _
theorem trim_head (l : List UInt8) : headOk (trim l) := by
  intro c r h
  obtain ⟨b, h2, _⟩ := trimR_split (trimL l)
  unfold trim at h
  rw [h] at h2
  exact trimL_head l c (r ++ b) (by rw [h2]; rfl)
theorem trimL_id (l : List UInt8) (h : headOk l) : trimL l = l := by
  cases l with
  | nil => rfl
  | cons c r =>
    unfold trimL
    rw [List.dropWhile_cons, h c r rfl]
    rfl
theorem trimR_id (l : List UInt8) (h : lastOk l) : trimR l = l := by
  unfold trimR
  have : l.reverse.dropWhile blk = l.reverse := trimL_id l.reverse (by
    intro c r hc
    refine h c r.reverse ?_
    have := congrArg List.reverse hc
    simpa using this)
  rw [this, List.reverse_reverse]
theorem trim_id (l : List UInt8) (h1 : headOk l) (h2 : lastOk l) : trim l = l := by
  unfold trim
  rw [trimL_id l h1, trimR_id l h2]
theorem trim_trim (l : List UInt8) : trim (trim l) = trim l := trim_id _ (trim_head l) (trim_last l)
theorem trimL_pre (a l : List UInt8) (h : a.all blk = true) : trimL (a ++ l) = trimL l := by
  induction a with
  | nil => rfl
  | cons c a ih =>
    rw [List.all_cons, Bool.and_eq_true] at h
    unfold trimL
    rw [List.cons_append, List.dropWhile_cons, h.1]
    exact ih h.2
theorem trimR_suf (l b : List UInt8) (h : b.all blk = true) : trimR (l ++ b) = trimR l := by
  unfold trimR
  rw [List.reverse_append]
  congr 1
  exact trimL_pre b.reverse l.reverse (by simpa using h)
/-- What is trimmed, told by its parts. -/
theorem trim_of (a x b : List UInt8) (ha : a.all blk = true) (hb : b.all blk = true) (h1 : headOk x) (h2 : lastOk x) : trim (a ++ x ++ b) = x := by
  unfold trim
  rw [List.append_assoc, trimL_pre a _ ha]
  by_cases hx : x = []
  · subst hx
    rw [List.nil_append]
    have : trimL b = [] := by
      have := trimL_pre b [] hb
      rw [List.append_nil] at this
      exact this
    rw [this]
    rfl
  · have : headOk (x ++ b) := by
      intro c r hc
      cases x with
      | nil => exact absurd rfl hx
      | cons y x =>
        cases hc
        exact h1 _ _ rfl
    rw [trimL_id _ this, trimR_suf x b hb, trimR_id x h2]
theorem trim_blank (a : List UInt8) (h : a.all blk = true) : trim a = [] := by
  have := trim_of a [] [] h rfl (fun _ _ h => by cases h) (fun _ r h => by cases r <;> cases h)
  simpa using this
theorem trim_len (l : List UInt8) : (trim l).length ≤ l.length := by
  obtain ⟨a, b, h, _, _⟩ := trim_split l
  have := congrArg List.length h
  simp at this
  omega
theorem all_pl (a : List UInt8) (h : a.all blk = true) : a.all plb = true := by
  rw [List.all_eq_true] at *
  exact fun x hx => plb_blk x (h x hx)
theorem plain_trim (l : List UInt8) : plain (trim l) = plain l := by
  obtain ⟨a, b, h, ha, hb⟩ := trim_split l
  conv => rhs; rw [h]
  unfold plain
  rw [List.all_append, List.all_append, all_pl a ha, all_pl b hb]
  simp
theorem lows_nil (l : List UInt8) : lows l = [] ↔ l = [] := by simp [lows]

/-- What stands between commas. -/
def cutF (cur : List UInt8) : List UInt8 → List (List UInt8)
  | [] => [cur]
  | c :: r => if c.toNat = 44 then cur :: cutF [] r else cutF (cur ++ [c]) r
def cut (l : List UInt8) : List (List UInt8) := cutF [] l
/-- A part that counts, with small letters. -/
def aPart (x : List UInt8) : Option (List UInt8) := if trim x = [] then none else some (lows (trim x))
def parts (l : List UInt8) : List (List UInt8) := (cut l).filterMap aPart
theorem cutF_app (a b : List UInt8) : ∀ cur, cutF cur (a ++ 44 :: b) = cutF cur a ++ cut b := by
  induction a with
  | nil => intro cur; simp [cutF, cut]
  | cons c a ih =>
    intro cur
    rw [List.cons_append, cutF, cutF]
    split
    · rw [ih, List.cons_append]
    · rw [ih]
theorem parts_app (a b : List UInt8) : parts (a ++ 44 :: b) = parts a ++ parts b := by
  unfold parts cut
  rw [cutF_app, List.filterMap_append]
  rfl
def noComma (l : List UInt8) : Prop := ∀ c ∈ l, c.toNat ≠ 44
theorem cutF_one (l : List UInt8) : ∀ cur, noComma l → cutF cur l = [cur ++ l] := by
  induction l with
  | nil => intro cur _; simp [cutF]
  | cons c l ih =>
    intro cur h
    rw [cutF, if_neg (h c (by simp)), ih _ (fun x hx => h x (by simp [hx]))]
    simp
theorem parts_one (l : List UInt8) (h : noComma l) : parts l = (aPart l).toList := by
  unfold parts cut
  rw [cutF_one l [] h, List.nil_append]
  cases hp : aPart l <;> simp [hp]
theorem blank_noComma (a : List UInt8) (h : a.all blk = true) : noComma a := by
  intro c hc hn
  rw [List.all_eq_true] at h
  have := h c hc
  simp [blk] at this
  omega
theorem parts_blank (a : List UInt8) (h : a.all blk = true) : parts a = [] := by
  rw [parts_one a (blank_noComma a h), aPart, if_pos (trim_blank a h)]
  rfl
theorem tokb_blk (c : UInt8) (h : tokb c = true) : blk c = false := u8_all (fun c => tokb c = true → blk c = false) (by decide +kernel) c h
theorem tokb_comma (c : UInt8) (h : tokb c = true) : c.toNat ≠ 44 := u8_all (fun c => tokb c = true → c.toNat ≠ 44) (by decide +kernel) c h
theorem tok_all {x : List UInt8} (h : isTok x = true) : (∀ c ∈ x, tokb c = true) ∧ x ≠ [] := by
  unfold isTok at h
  rw [Bool.and_eq_true, List.all_eq_true] at h
  refine ⟨h.1, ?_⟩
  rintro rfl
  exact absurd h.2 (by decide)
/-- A token of small letters between blanks is that part. -/
theorem parts_tok (a x b : List UInt8) (ha : a.all blk = true) (hb : b.all blk = true) (hx : isTok x = true) (hl : lows x = x) : parts (a ++ x ++ b) = [x] := by
  obtain ⟨h1, h2⟩ := tok_all hx
  have ht : trim (a ++ x ++ b) = x := by
    refine trim_of a x b ha hb ?_ ?_
    · rintro c r rfl
      exact tokb_blk c (h1 c (by simp))
    · rintro c r rfl
      exact tokb_blk c (h1 c (by simp))
  rw [parts_one]
  · rw [aPart, ht, if_neg h2, hl]
    rfl
  · intro c hc
    rw [List.mem_append, List.mem_append] at hc
    rcases hc with (hc | hc) | hc
    · exact blank_noComma a ha c hc
    · exact tokb_comma c (h1 c hc)
    · exact blank_noComma b hb c hc
/-- Each part has small letters. -/
theorem parts_low (l x : List UInt8) (h : x ∈ parts l) : lows x = x := by
  unfold parts at h
  rw [List.mem_filterMap] at h
  obtain ⟨y, _, hy⟩ := h
  unfold aPart at hy
  split at hy
  · cases hy
  · cases hy
    exact lows_lows _
/-- The list, and the error. -/
def listE (l : List UInt8) : Nat := if 16 < (parts l).length then 4 else if (parts l).all isTok then 0 else 8
theorem listE_ok {l : List UInt8} (h : listE l = 0) : (parts l).length ≤ 16 ∧ ∀ x ∈ parts l, isTok x = true ∧ lows x = x := by
  unfold listE at h
  split at h
  · cases h
  · rename_i h1
    split at h
    · rename_i h2
      rw [List.all_eq_true] at h2
      exact ⟨by omega, fun x hx => ⟨h2 x hx, parts_low l x hx⟩⟩
    · cases h
theorem listE_app (a b : List UInt8) (ha : listE a = 0) (hb : listE b = 0) : listE (a ++ 44 :: b) = if 16 < (parts a).length + (parts b).length then 4 else 0 := by
  have h1 := (listE_ok ha).2
  have h2 := (listE_ok hb).2
  unfold listE
  rw [parts_app, List.length_append]
  split
  · rfl
  · rw [if_pos]
    rw [List.all_eq_true]
    intro x hx
    rcases List.mem_append.1 hx with h | h
    · exact (h1 x h).1
    · exact (h2 x h).1
/-- What a list is put together as: a blank, a comma; then each part between blanks, with a comma behind. -/
def tog : List (List UInt8) → List UInt8
  | [] => []
  | x :: r => 9 :: (x ++ [32, 44, 32]) ++ tog r
theorem tog_snoc (l : List (List UInt8)) (x : List UInt8) : tog (l ++ [x]) = tog l ++ (9 :: (x ++ [32, 44, 32])) := by
  induction l with
  | nil => simp [tog]
  | cons y l ih => simp [tog, ih]
theorem parts_tog : ∀ (l : List (List UInt8)) (a : List UInt8), a.all blk = true → (∀ x ∈ l, isTok x = true ∧ lows x = x) → parts (a ++ tog l) = l
  | [], a, ha, _ => by rw [tog, List.append_nil, parts_blank a ha]
  | x :: l, a, ha, h => by
    have e : a ++ tog (x :: l) = ((a ++ [9]) ++ x ++ [32]) ++ 44 :: ([32] ++ tog l) := by simp [tog]
    obtain ⟨hx, hl⟩ := h x (by simp)
    rw [e, parts_app, parts_tok (a ++ [9]) x [32] (by rw [List.all_append, ha]; decide) (by decide) hx hl, parts_tog l [32] (by decide) (fun y hy => h y (by simp [hy]))]
    rfl
theorem parts_all (l : List (List UInt8)) (h : ∀ x ∈ l, isTok x = true ∧ lows x = x) : parts ([32, 44] ++ tog l) = l := by
  have e : [32, 44] ++ tog l = [32] ++ 44 :: ([] ++ tog l) := by simp
  rw [e, parts_app, parts_blank [32] (by decide), parts_tog l [] (by decide) h]
  rfl
theorem listE_tog (l : List (List UInt8)) (h : ∀ x ∈ l, isTok x = true ∧ lows x = x) (hn : l.length ≤ 16) : listE ([32, 44] ++ tog l) = 0 := by
  unfold listE
  rw [parts_all l h, if_neg (by omega), if_pos]
  rw [List.all_eq_true]
  exact fun x hx => (h x hx).1
end As
end Go.Proofs.Ytfdhogaknlabkaa
namespace Go.Proofs.Ytfdhogaknlabkaa
open Go.RowKit
namespace Hx

/-- The slice at address A reads as the bytes l, all below block B. -/
def RdA (w : World) (B : Nat) (A : Option Addr) (l : List UInt8) : Prop :=
  0 < l.length → ∃ b off, A = some ⟨b, off, none⟩ ∧ b < B ∧ ∀ j (h : j < l.length), w.cell? ⟨b, off + j, none⟩ = some (.int .u8 (l[j]'h).toNat)

theorem RdA.keep {w w' : World} {B B' : Nat} {A : Option Addr} {l : List UInt8} (h : RdA w B A l) (hB : B ≤ B') (hk : ∀ b o, b < B → w'.cell? ⟨b, o, none⟩ = w.cell? ⟨b, o, none⟩) : RdA w' B' A l := by
  intro hp
  obtain ⟨b, off, e, hb, hc⟩ := h hp
  exact ⟨b, off, e, by omega, fun j hj => (hk _ _ hb).trans (hc j hj)⟩
theorem RdA.below {w w' : World} {B : Nat} {A : Option Addr} {l : List UInt8} (h : RdA w B A l) (hb : Below B w w') : RdA w' B A l :=
  h.keep (Nat.le_refl _) fun b o hlt => hb.cell (p := ⟨b, o, none⟩) hlt
theorem RdA.mono {w : World} {B B' : Nat} {A : Option Addr} {l : List UInt8} (h : RdA w B A l) (hB : B ≤ B') : RdA w B' A l := h.keep hB fun _ _ _ => rfl
theorem RdA.nil (w : World) (B : Nat) (A : Option Addr) : RdA w B A [] := fun h => absurd h (by simp)
theorem addr_plain (b o i : Nat) : (⟨b, o, none⟩ : Addr).add i = ⟨b, o + i, none⟩ := by
  unfold Addr.add
  split <;> simp_all
theorem RdA.of_own {w : World} {base : Nat} {e : TypeId} {A : Option Addr} {n c : Nat} {l : List UInt8} (h : w.ownsRow base e 1 (.slice A n c) n (Lib.byteCells l)) : RdA w w.heap.size A l ∧ l.length = n := by
  have hl : l.length = n := by have := h.1; rw [Lib.byteCells_length] at this; omega
  refine ⟨fun hp => ?_, hl⟩
  rcases h.2 with ⟨_, h0⟩ | ⟨g, cap, cur, hv, _, hg, _⟩
  · omega
  injection hv with hA _ _
  subst hA
  have hlt : g < w.heap.size := (Array.getElem?_eq_some_iff.1 hg).1
  refine ⟨g, 0, rfl, hlt, fun j hj => ?_⟩
  have := h.cells (g := g) rfl j (.int .u8 (l[j]'hj).toNat) (by simp [Lib.byteCells, hj])
  rw [addr_plain] at this
  exact this
theorem own_form {w : World} {base : Nat} {e : TypeId} {v : Value} {n : Nat} {xs : List Value} (h : w.ownsRow base e 1 v n xs) : ∃ A c, v = .slice A n c := by
  rcases h.2 with ⟨rfl, rfl⟩ | ⟨g, cap, cur, rfl, _⟩
  · exact ⟨none, 0, rfl⟩
  · exact ⟨_, cap, rfl⟩
theorem own_below {w w' : World} {B base : Nat} {e : TypeId} {v : Value} {n : Nat} {xs : List Value} (h : w.ownsRow base e 1 v n xs) (hb : Below B w w') (hB : w.heap.size ≤ B) : w'.ownsRow base e 1 v n xs := by
  refine h.kept (row := none) ⟨hb.os, hb.tape, hb.output, hb.size, fun k hk _ => hb.block k (by omega)⟩ ?_
  cases v.ownBlock
  · exact .inl rfl
  · exact .inr (by simp)

theorem RdA.new (w : World) (t : TypeId) (l : List UInt8) : RdA (w.alloc (.cells (Lib.byteCells l).toArray t)) (w.heap.size + 1) (some ⟨w.heap.size, 0, none⟩) l := by
  intro _
  refine ⟨_, _, rfl, Nat.lt_succ_self _, fun j hj => ?_⟩
  rw [World.cell?_alloc_new]
  simp [Lib.byteCells, hj]
theorem RdA.newS (w : World) (t : TypeId) (l : List UInt8) : RdA (w.alloc (.cells (Lib.byteCells l).toArray t)) (w.alloc (.cells (Lib.byteCells l).toArray t)).heap.size (some ⟨w.heap.size, 0, none⟩) l :=
  (RdA.new w t l).mono (by simp)
/-- What a slice of bytes that came in reads as. -/
theorem rdA_of_row {w : World} {x : Addr} {len cap : Nat} {zs : List Int} (hl : len ≤ cap) (hz : zs.length = cap)
    (hcell : ∀ i, i < zs.length → w.cell? (x.add i) = some (.int .u8 (zs.getD i 0))) (hwz : ∀ n ∈ zs, (Lit.int .u8 n).wf = true) :
    ∃ l : List UInt8, RdA w w.heap.size (some x) l ∧ l.length = len := by
  refine ⟨(zs.take len).map fun n => n.toNat.toUInt8, fun hp => ?_, by simp; omega⟩
  have hp' : 0 < len := by
    simp at hp
    omega
  obtain ⟨b, off, spot⟩ := x
  have hspot : spot = none := by simpa [Addr.add] using World.cell?_spot (hcell 0 (by omega))
  subst hspot
  refine ⟨b, off, rfl, ?_, fun j hj => ?_⟩
  · have := hcell 0 (by omega)
    rw [addr_plain] at this
    exact World.block_lt_of_cell? (a := ⟨b, off + 0, none⟩) w this
  · have hj' : j < len := by
      simp at hj
      omega
    have hjz : j < zs.length := by omega
    have := hcell j hjz
    rw [addr_plain] at this
    rw [this]
    have hw := bounds_u8 (hwz _ (List.getElem_mem hjz))
    simp [List.getD, hjz]
    omega
theorem bytes_one (l : List UInt8) : ∀ v ∈ Lib.byteCells l, v.oneCell' = true := by
  intro v hv
  obtain ⟨b, _, rfl⟩ := List.mem_map.1 hv
  rfl
theorem ret_s {a b : ByteArray} (h : a = b) : Ending.returned (.string a) = .returned (.string b) := by rw [h]
theorem ret_b {x y : Bool} (h : x = y) : Ending.returned (.bool x) = .returned (.bool y) := by rw [h]
theorem ret_ib {a b : Int} {x y : Bool} (h : a = b) (k : x = y) : Ending.returned (.tuple #[.int .i64 a, .bool x]) = .returned (.tuple #[.int .i64 b, .bool y]) := by rw [h, k]

/-- string(b). -/
theorem conv_str {P : Program} {w : World} {B src dst e : Nat} {A : Option Addr} {n c : Nat} {l : List UInt8} (h : RdA w B A l) (hn : l.length = n)
    (hs : P.underlying src = some (.slice e)) (he : P.underlying e = some (.int .u8)) (hd : P.underlying dst = some .string) :
    (convert src dst (.slice A n c)).run P w = .ok (.string ⟨l.toArray⟩) w := by
  subst hn
  rcases Nat.eq_zero_or_pos l.length with h0 | h0
  · have hl : l = [] := List.eq_nil_of_length_eq_zero h0
    subst hl
    rcases A with _ | a
    · exact run_convert_bytes_nil w src e hs he _ _ dst hd
    · exact run_convert_bytes_back w src dst e a c [] hs he hd (fun j hj => absurd hj (by simp))
  · obtain ⟨b, off, rfl, _, hc⟩ := h h0
    exact run_convert_bytes_back w src dst e _ c l hs he hd (fun j hj => by rw [addr_plain]; exact hc j hj)
/-- append(own, b...) of a slice of bytes, whatever its address. -/
theorem wpList_append_rd {P : Program} {w : World} {ops : Array Oper} {rest : List Oper} {o : Oper} {a : Act} {Q : Exit → Act → World → Prop} (hgd : o.guard = none) (s x : Operand) (t : TypeId)
    (ho : o.op = .call { callee := .builtin .append, args := #[s, x], argTypes := #[t, t] })
    (base : Nat) (e : TypeId) (i : TypeInfo) (z : Value) (ht : P.underlying t = some (.slice e)) (hi : P.info? e = some i) (hz : i.zero = some z) (hsize : i.size = 1) (hby : i.bytes = 1) (hzs : z.cells.size = 1)
    (v : Value) (n : Nat) (xs : List Value) (hs : a.eval s = v) (hown : w.ownsRow base e 1 v n xs)
    (B : Nat) (A : Option Addr) (m c : Nat) (l : List UInt8) (hx : a.eval x = .slice A m c) (hr : RdA w B A l) (hl : l.length = m) (hc0 : A = none → c = 0) (hb : n + m ≤ 100000000000) (hbase : base ≤ w.heap.size)
    (h : ∀ v' w', w'.ownsRow base e 1 v' (n + m) (xs ++ Lib.byteCells l) → w.grownBy w' v.ownBlock → wpList P ops Q rest (a.put o.dst v') w') : wpList P ops Q (o :: rest) a w := by
  rcases A with _ | ad
  · have h0 : l = [] := by
      rcases Nat.eq_zero_or_pos l.length with h0 | h0
      · exact List.eq_nil_of_length_eq_zero h0
      · obtain ⟨_, _, he, _⟩ := hr h0
        cases he
    subst h0
    obtain rfl : 0 = m := hl
    rw [hc0 rfl] at hx
    exact wpList_append_own_none hgd s x t ho base e i 1 ht hi v n xs hs hown hx (h v w (by simpa [Lib.byteCells] using hown) (World.grownBy.refl _ _))
  · refine wpList_append_own w hgd s x t ho base e i z 1 1 ht hi hz hsize hby hzs (by decide) v n xs hs hown ad m c (Lib.byteCells l) hx (by rw [Lib.byteCells_length]; omega) ?_ (bytes_one l) (by unfold maxLen; omega) (by omega) hbase (fun v' w' h1 h2 _ => h v' w' h1 h2)
    intro j u hu
    have hj : j < l.length := by
      have := (List.getElem?_eq_some_iff.1 hu).1
      simpa [Lib.byteCells] using this
    obtain ⟨b, off, he, _, hc⟩ := hr (by omega)
    cases he
    rw [addr_plain, hc j hj]
    simpa [Lib.byteCells, hj] using hu

/-- string of a new one-byte slice. -/
theorem conv_one {P : Program} (w : World) {src dst e : Nat} (c : UInt8) (hs : P.underlying src = some (.slice e)) (he : P.underlying e = some (.int .u8)) (hd : P.underlying dst = some .string) :
    (convert src dst (.slice (some ⟨w.heap.size, 0, none⟩) 1 1)).run P (w.alloc (.cells #[.int .u8 c.toNat] e)) = .ok (.string ⟨#[c]⟩) (w.alloc (.cells #[.int .u8 c.toNat] e)) :=
  conv_str (RdA.new w e [c]) rfl hs he hd

theorem stp {a b c : World} (h : Below a.heap.size a b) (k : Below b.heap.size b c) : Below a.heap.size a c := h.trans (k.mono h.size)
theorem stpA {a b : World} (h : Below a.heap.size a b) (o : Obj) : Below a.heap.size a (b.alloc o) := h.alloc h.size o

theorem bcell {W w1 : World} {B : Nat} (hb : Below B W w1) : (∀ b o, b < B → w1.cell? ⟨b, o, none⟩ = W.cell? ⟨b, o, none⟩) ∧ (∀ b o, b < B → w1.frozen? ⟨b, o, none⟩ = W.frozen? ⟨b, o, none⟩) :=
  ⟨fun b o h => hb.cell (p := ⟨b, o, none⟩) h, fun b o h => hb.frozen (p := ⟨b, o, none⟩) h⟩
end Hx
end Go.Proofs.Ytfdhogaknlabkaa
namespace Go.Proofs.Ytfdhogaknlabkaa
namespace Wd
open Go

abbrev W32 := BitVec 32

/-- x turned up by k places. -/
def rot (x : W32) (k : Nat) : W32 := x <<< k ||| x >>> (32 - k)
/-- x turned by n. -/
def trn (x : W32) (n : Int) : W32 := rot x (n % 32).toNat

theorem rot_bit (x : W32) (k i : Nat) (hk : k < 32) (hi : i < 32) : (rot x k).getLsbD i = x.getLsbD ((i + 32 - k) % 32) := by
  unfold rot
  rw [BitVec.getLsbD_or, BitVec.getLsbD_shiftLeft, BitVec.getLsbD_ushiftRight]
  by_cases h : i < k
  · rw [show (i + 32 - k) % 32 = 32 - k + i by omega]
    simp [hi, h]
  · rw [show (i + 32 - k) % 32 = i - k by omega]
    have : x.getLsbD (32 - k + i) = false := BitVec.getLsbD_of_ge _ _ (by omega)
    simp [hi, h, this]
theorem trn_bit (x : W32) (n : Int) (i : Nat) (hi : i < 32) : (trn x n).getLsbD i = x.getLsbD (((i : Int) - n) % 32).toNat := by
  unfold trn
  rw [rot_bit x _ i (by omega) hi]
  congr 1
  omega
theorem trn_trn (x : W32) (n m k : Int) (h : k % 32 = (n + m) % 32) : trn (trn x n) m = trn x k := by
  apply BitVec.eq_of_getLsbD_eq
  intro i hi
  rw [trn_bit _ _ _ hi, trn_bit _ _ _ (by omega), trn_bit _ _ _ hi]
  congr 1
  omega
theorem trn_zero (x : W32) (n : Int) (h : n % 32 = 0) : trn x n = x := by
  apply BitVec.eq_of_getLsbD_eq
  intro i hi
  rw [trn_bit _ _ _ hi]
  congr 1
  omega
theorem trn_mod (x : W32) (n m : Int) (h : n % 32 = m % 32) : trn x n = trn x m := by
  unfold trn
  rw [h]

/-- y's bit, where x's is 1, else z's. -/
def chs (x y z : W32) : W32 := (x &&& y) ||| (~~~x &&& z)
def odd (x y z : W32) : W32 := x ^^^ y ^^^ z
def mst (x y z : W32) : W32 := (x &&& y) ||| (x &&& z) ||| (y &&& z)
theorem chs_bit (x y z : W32) (i : Nat) (hi : i < 32) : (chs x y z).getLsbD i = (if x.getLsbD i then y.getLsbD i else z.getLsbD i) := by
  unfold chs
  simp only [BitVec.getLsbD_or, BitVec.getLsbD_and, BitVec.getLsbD_not, hi, decide_true, Bool.true_and]
  cases x.getLsbD i <;> simp
theorem odd_bit (x y z : W32) (i : Nat) : (odd x y z).getLsbD i = (x.getLsbD i ^^ y.getLsbD i ^^ z.getLsbD i) := by
  unfold odd
  simp only [BitVec.getLsbD_xor]
theorem mst_bit (x y z : W32) (i : Nat) : (mst x y z).getLsbD i = ((x.getLsbD i && y.getLsbD i) || (x.getLsbD i && z.getLsbD i) || (y.getLsbD i && z.getLsbD i)) := by
  unfold mst
  simp only [BitVec.getLsbD_or, BitVec.getLsbD_and]
theorem chs_trn (x y z : W32) (n : Int) : chs (trn x n) (trn y n) (trn z n) = trn (chs x y z) n := by
  apply BitVec.eq_of_getLsbD_eq
  intro i hi
  rw [chs_bit _ _ _ _ hi, trn_bit _ _ _ hi, trn_bit _ _ _ hi, trn_bit _ _ _ hi, trn_bit _ _ _ hi, chs_bit _ _ _ _ (by omega)]
theorem odd_trn (x y z : W32) (n : Int) : odd (trn x n) (trn y n) (trn z n) = trn (odd x y z) n := by
  apply BitVec.eq_of_getLsbD_eq
  intro i hi
  rw [odd_bit, trn_bit _ _ _ hi, trn_bit _ _ _ hi, trn_bit _ _ _ hi, trn_bit _ _ _ hi, odd_bit]
theorem mst_trn (x y z : W32) (n : Int) : mst (trn x n) (trn y n) (trn z n) = trn (mst x y z) n := by
  apply BitVec.eq_of_getLsbD_eq
  intro i hi
  rw [mst_bit, trn_bit _ _ _ hi, trn_bit _ _ _ hi, trn_bit _ _ _ hi, trn_bit _ _ _ hi, mst_bit]

theorem ones_bit (i : Nat) (hi : i < 32) : (4294967295#32).getLsbD i = true := by
  have all : ∀ j : Fin 32, (4294967295#32).getLsbD j.val = true := by decide
  exact all ⟨i, hi⟩
theorem mst_chs (x y z : W32) : mst x y z = chs x (y ||| z) (y &&& z) := by
  apply BitVec.eq_of_getLsbD_eq
  intro i hi
  rw [mst_bit, chs_bit _ _ _ _ hi, BitVec.getLsbD_or, BitVec.getLsbD_and]
  cases x.getLsbD i <;> cases y.getLsbD i <;> cases z.getLsbD i <;> rfl
theorem odd_chs (x y z : W32) : odd x y z = chs x (odd 4294967295#32 y z) (odd 0#32 y z) := by
  apply BitVec.eq_of_getLsbD_eq
  intro i hi
  rw [odd_bit, chs_bit _ _ _ _ hi, odd_bit, odd_bit, ones_bit i hi, BitVec.getLsbD_zero]
  cases x.getLsbD i <;> cases y.getLsbD i <;> cases z.getLsbD i <;> rfl
theorem chs_ones (y z : W32) : chs 4294967295#32 y z = y := by
  apply BitVec.eq_of_getLsbD_eq
  intro i hi
  rw [chs_bit _ _ _ _ hi, ones_bit i hi, if_pos rfl]
theorem chs_zero (y z : W32) : chs 0#32 y z = z := by
  apply BitVec.eq_of_getLsbD_eq
  intro i hi
  rw [chs_bit _ _ _ _ hi, BitVec.getLsbD_zero, if_neg (by simp)]
theorem mst_same (x z : W32) : mst x x z = x := by
  apply BitVec.eq_of_getLsbD_eq
  intro i hi
  rw [mst_bit]
  cases x.getLsbD i <;> cases z.getLsbD i <;> rfl

/-- The number whose bits below k are f's. -/
def bvn (f : Nat → Bool) : Nat → Nat
  | 0 => 0
  | k + 1 => bvn f k + (f k).toNat * 2 ^ k
theorem bvn_lt (f : Nat → Bool) (k : Nat) : bvn f k < 2 ^ k := by
  induction k with
  | zero => simp [bvn]
  | succ k ih =>
    have h2 : (f k).toNat ≤ 1 := by cases f k <;> decide
    have h3 : (f k).toNat * 2 ^ k ≤ 1 * 2 ^ k := Nat.mul_le_mul_right _ h2
    rw [bvn, Nat.pow_succ]
    omega
theorem bvn_lt32 (f : Nat → Bool) (k : Nat) (h : k ≤ 32) : bvn f k < 4294967296 := by
  have h1 := bvn_lt f k
  have h2 : 2 ^ k ≤ 2 ^ 32 := Nat.pow_le_pow_right (by decide) h
  omega
theorem bvn_or (f : Nat → Bool) (k : Nat) (h : f k = true) : bvn f k ||| 2 ^ k = bvn f (k + 1) := by
  rw [bvn, h, Nat.or_comm]
  have := Nat.two_pow_add_eq_or_of_lt (bvn_lt f k) 1
  rw [Nat.mul_one] at this
  rw [← this]
  simp
  omega
theorem bvn_no (f : Nat → Bool) (k : Nat) (h : f k = false) : bvn f (k + 1) = bvn f k := by
  rw [bvn, h]
  simp
theorem bvn_mod (f : Nat → Bool) (X : W32) (k : Nat) (h : ∀ i, i < k → f i = X.getLsbD i) : bvn f k = X.toNat % 2 ^ k := by
  induction k with
  | zero => simp [bvn, Nat.mod_one]
  | succ k ih =>
    rw [bvn, ih (fun i hi => h i (by omega)), h k (by omega), Nat.mod_pow_succ, ← BitVec.testBit_toNat, Nat.toNat_testBit, Nat.mul_comm]
theorem bvn_of (f : Nat → Bool) (X : W32) (h : ∀ i, i < 32 → f i = X.getLsbD i) : bvn f 32 = X.toNat := by
  rw [bvn_mod f X 32 h]
  exact Nat.mod_eq_of_lt X.isLt

/-- A bit as a number. -/
def bt (x : W32) (i : Nat) : Nat := x.toNat / 2 ^ i % 2
theorem bt_bit (x : W32) (i : Nat) : bt x i = (x.getLsbD i).toNat := by
  unfold bt
  rw [← BitVec.testBit_toNat, Nat.toNat_testBit]
theorem bt_le (x : W32) (i : Nat) : bt x i ≤ 1 := by unfold bt; omega
theorem hi_succ (x : W32) (k : Nat) : x.toNat / 2 ^ k = 2 * (x.toNat / 2 ^ (k + 1)) + bt x k := by
  unfold bt
  rw [Nat.pow_succ, ← Nat.div_div_eq_div_mul]
  omega
theorem hi_top (x : W32) : x.toNat / 2 ^ 32 = 0 := Nat.div_eq_of_lt x.isLt
theorem chs_bt (x y z : W32) (i : Nat) (hi : i < 32) : bt (chs x y z) i = if bt x i = 1 then bt y i else bt z i := by
  rw [bt_bit, bt_bit, bt_bit, bt_bit, chs_bit _ _ _ _ hi]
  cases x.getLsbD i <;> simp
theorem odd_bt (x y z : W32) (i : Nat) : bt (odd x y z) i = (bt x i + bt y i + bt z i) % 2 := by
  rw [bt_bit, bt_bit, bt_bit, bt_bit, odd_bit]
  cases x.getLsbD i <;> cases y.getLsbD i <;> cases z.getLsbD i <;> rfl
theorem mst_bt (x y z : W32) (i : Nat) : bt (mst x y z) i = (bt x i + bt y i + bt z i) / 2 := by
  rw [bt_bit, bt_bit, bt_bit, bt_bit, mst_bit]
  cases x.getLsbD i <;> cases y.getLsbD i <;> cases z.getLsbD i <;> rfl

theorem rot_nat (x : W32) (k : Nat) : (rot x k).toNat = x.toNat * 2 ^ k % 4294967296 ||| x.toNat / 2 ^ (32 - k) := by
  unfold rot
  rw [BitVec.toNat_or, BitVec.toNat_shiftLeft, BitVec.toNat_ushiftRight, Nat.shiftLeft_eq, Nat.shiftRight_eq_div_pow]
theorem rot_one (x : W32) : (rot x 1).toNat = x.toNat * 2 % 4294967296 + x.toNat / 2147483648 := by
  rw [rot_nat]
  have hx := x.isLt
  have h := Nat.two_pow_add_eq_or_of_lt (i := 1) (b := x.toNat / 2147483648) (by omega) (x.toNat % 2147483648)
  rw [show x.toNat * 2 ^ 1 % 4294967296 = 2 ^ 1 * (x.toNat % 2147483648) by omega, show x.toNat / 2 ^ (32 - 1) = x.toNat / 2147483648 by rfl, ← h]
theorem up_trn (x : W32) (i : Nat) : (trn x ((i + 1 : Nat) : Int)).toNat = (trn x i).toNat * 2 % 4294967296 + (trn x i).toNat / 2147483648 := by
  rw [← rot_one, ← trn_trn x i 1 ((i + 1 : Nat) : Int) (by omega)]
  rfl

/-- The sum of words, whole. -/
def smN (l : List W32) : Nat := (l.map BitVec.toNat).sum
def sm (l : List W32) : Nat := smN l % 4294967296
theorem sm_lt (l : List W32) : sm l < 4294967296 := Nat.mod_lt _ (by decide)
theorem smN_append (a b : List W32) : smN (a ++ b) = smN a + smN b := by simp [smN]
theorem sm_take (l : List W32) (k : Nat) (h : k < l.length) : sm (l.take (k + 1)) = (sm (l.take k) + (l[k]'h).toNat) % 4294967296 := by
  unfold sm
  rw [List.take_succ_eq_append_getElem h, smN_append, Nat.mod_add_mod]
  simp [smN]
theorem sm_turn (l : List W32) (k : Nat) : sm (l.drop k ++ l.take k) = sm l := by
  unfold sm
  conv => rhs; rw [← List.take_append_drop k l]
  rw [smN_append, smN_append, Nat.add_comm]
theorem sm_parts (l : List W32) (k : Nat) (a b : W32) (ha : a.toNat = sm (l.take k)) (hb : b.toNat = sm (l.drop k)) : sm [a, b] = sm l := by
  conv => rhs; rw [← List.take_append_drop k l]
  unfold sm at *
  rw [smN_append]
  simp only [smN, List.map_cons, List.map_nil, List.sum_cons, List.sum_nil] at *
  omega

/-- A word's bytes. -/
def w4 (x : W32) : List UInt8 := [(x.toNat / 16777216).toUInt8, (x.toNat / 65536 % 256).toUInt8, (x.toNat / 256 % 256).toUInt8, (x.toNat % 256).toUInt8]
def bytesL (l : List W32) : List UInt8 := l.flatMap w4
theorem bytesL_length (l : List W32) : (bytesL l).length = 4 * l.length := by
  induction l with
  | nil => rfl
  | cons a l ih => simp only [bytesL, List.flatMap_cons, List.length_append, List.length_cons] at *; simp only [w4, List.length_cons, List.length_nil]; omega
theorem bytesL_append (a b : List W32) : bytesL (a ++ b) = bytesL a ++ bytesL b := by simp [bytesL]
theorem bytesL_take (l : List W32) (k : Nat) (h : k < l.length) : bytesL (l.take (k + 1)) = bytesL (l.take k) ++ w4 (l[k]'h) := by
  rw [List.take_succ_eq_append_getElem h, bytesL_append]; simp [bytesL]

/-- The first r bytes of the j-th four, as a number. -/
def pw (b : List UInt8) (j : Nat) : Nat → Nat
  | 0 => 0
  | r + 1 => 256 * pw b j r + (b.getD (4 * j + r) 0).toNat
theorem pw_lt (b : List UInt8) (j r : Nat) : pw b j r < 256 ^ r := by
  induction r with
  | zero => simp [pw]
  | succ r ih =>
    have := (b.getD (4 * j + r) 0).toNat_lt
    rw [pw, Nat.pow_succ]
    omega
theorem pw_lt4 (b : List UInt8) (j r : Nat) (h : r ≤ 4) : pw b j r < 4294967296 := by
  have h1 := pw_lt b j r
  have h2 : 256 ^ r ≤ 256 ^ 4 := Nat.pow_le_pow_right (by decide) h
  omega
theorem pw_lt3 (b : List UInt8) (j r : Nat) (h : r ≤ 3) : pw b j r < 16777216 := by
  have h1 := pw_lt b j r
  have h2 : 256 ^ r ≤ 256 ^ 3 := Nat.pow_le_pow_right (by decide) h
  omega
/-- The n words behind 'at' bytes. -/
def rowW (b : List UInt8) (n at_ : Nat) : List W32 := (List.range n).map fun j => BitVec.ofNat 32 (pw b j (min 4 (at_ - 4 * j)))
theorem rowW_length (b : List UInt8) (n at_ : Nat) : (rowW b n at_).length = n := by simp [rowW]
theorem rowW_zero (b : List UInt8) (n : Nat) : rowW b n 0 = List.replicate n 0#32 := by
  apply List.ext_getElem
  · simp [rowW]
  · intro j h1 h2
    simp [rowW, pw]
theorem rowW_get (b : List UInt8) (n at_ : Nat) (h : at_ / 4 < n) : (rowW b n at_)[at_ / 4]'(by rw [rowW_length]; exact h) = BitVec.ofNat 32 (pw b (at_ / 4) (at_ % 4)) := by
  simp only [rowW, List.getElem_map, List.getElem_range]
  rw [show min 4 (at_ - 4 * (at_ / 4)) = at_ % 4 by omega]
theorem rowW_set (b : List UInt8) (n at_ : Nat) : (rowW b n at_).set (at_ / 4) (BitVec.ofNat 32 (256 * pw b (at_ / 4) (at_ % 4) + (b.getD at_ 0).toNat)) = rowW b n (at_ + 1) := by
  apply List.ext_getElem
  · simp [rowW]
  · intro j h1 h2
    have hj : j < n := by simpa [rowW] using h2
    rw [List.getElem_set]
    simp only [rowW, List.getElem_map, List.getElem_range]
    split
    · rename_i e
      subst e
      rw [show min 4 (at_ + 1 - 4 * (at_ / 4)) = at_ % 4 + 1 by omega, pw, show 4 * (at_ / 4) + at_ % 4 = at_ by omega]
    · rename_i e
      rw [show min 4 (at_ + 1 - 4 * j) = min 4 (at_ - 4 * j) by omega]
/-- The words whose bytes b is. -/
def wordL (b : List UInt8) : List W32 := (List.range (b.length / 4)).map fun j => BitVec.ofNat 32 (pw b j 4)
theorem wordL_length (b : List UInt8) : (wordL b).length = b.length / 4 := by simp [wordL]
theorem rowW_full (b : List UInt8) (at_ : Nat) (h : at_ = 4 * (b.length / 4)) : rowW b (b.length / 4) at_ = wordL b := by
  subst h
  apply List.ext_getElem
  · simp [rowW, wordL]
  · intro j h1 h2
    have hj : j < b.length / 4 := by simpa [wordL] using h2
    simp only [rowW, wordL, List.getElem_map, List.getElem_range]
    rw [show min 4 (4 * (b.length / 4) - 4 * j) = 4 by omega]
/-- The first k words. -/
def wordK (b : List UInt8) (k : Nat) : List W32 := (List.range k).map fun j => BitVec.ofNat 32 (pw b j 4)
theorem wordK_length (b : List UInt8) (k : Nat) : (wordK b k).length = k := by simp [wordK]
theorem wordK_succ (b : List UInt8) (k : Nat) : wordK b (k + 1) = wordK b k ++ [BitVec.ofNat 32 (pw b k 4)] := by simp [wordK, List.range_succ]
theorem wordK_full (b : List UInt8) : wordK b (b.length / 4) = wordL b := rfl
theorem pw4 (b : List UInt8) (j : Nat) : pw b j 4 = 16777216 * (b.getD (4 * j) 0).toNat + 65536 * (b.getD (4 * j + 1) 0).toNat + 256 * (b.getD (4 * j + 2) 0).toNat + (b.getD (4 * j + 3) 0).toNat := by
  simp only [pw, Nat.add_zero, Nat.mul_zero, Nat.zero_add]
  omega
theorem bytesL_at (l : List W32) (j r : Nat) (h : j < l.length) (hr : r < 4) : (bytesL l).getD (4 * j + r) 0 = (w4 (l[j]'h)).getD r 0 := by
  induction l generalizing j with
  | nil => simp at h
  | cons a l ih =>
    have e : bytesL (a :: l) = w4 a ++ bytesL l := by simp [bytesL]
    have e4 : (w4 a).length = 4 := rfl
    cases j with
    | zero =>
      rw [e, List.getD_eq_getElem?_getD, List.getD_eq_getElem?_getD, List.getElem?_append_left (by rw [e4]; omega)]
      simp
    | succ j =>
      have h' : j < l.length := by simpa using h
      have := ih j h'
      rw [List.getD_eq_getElem?_getD] at this
      rw [e, List.getD_eq_getElem?_getD, List.getElem?_append_right (by rw [e4]; omega), e4, show 4 * (j + 1) + r - 4 = 4 * j + r by omega, this]
      simp
theorem u8_nat (n : Nat) (h : n < 256) : n.toUInt8.toNat = n := by rw [Nat.toUInt8, UInt8.toNat_ofNat']; omega
theorem w4_word (x : W32) : 16777216 * ((w4 x).getD 0 0).toNat + 65536 * ((w4 x).getD 1 0).toNat + 256 * ((w4 x).getD 2 0).toNat + ((w4 x).getD 3 0).toNat = x.toNat := by
  have hx := x.isLt
  simp only [w4, List.getD_cons_zero, List.getD_cons_succ]
  rw [u8_nat _ (by omega), u8_nat _ (by omega), u8_nat _ (by omega), u8_nat _ (by omega)]
  omega
theorem wordL_bytesL (l : List W32) : wordL (bytesL l) = l := by
  apply List.ext_getElem
  · rw [wordL_length, bytesL_length]; omega
  · intro j h1 h2
    simp only [wordL, List.getElem_map, List.getElem_range]
    rw [pw4, show 4 * j = 4 * j + 0 by rfl, bytesL_at l j 0 h2 (by omega), bytesL_at l j 1 h2 (by omega), bytesL_at l j 2 h2 (by omega), bytesL_at l j 3 h2 (by omega), w4_word]
    simp
theorem w4_bytes (a b c d : UInt8) : w4 (BitVec.ofNat 32 (16777216 * a.toNat + 65536 * b.toNat + 256 * c.toNat + d.toNat)) = [a, b, c, d] := by
  have ha := a.toNat_lt
  have hb := b.toNat_lt
  have hc := c.toNat_lt
  have hd := d.toNat_lt
  have e : (BitVec.ofNat 32 (16777216 * a.toNat + 65536 * b.toNat + 256 * c.toNat + d.toNat)).toNat = 16777216 * a.toNat + 65536 * b.toNat + 256 * c.toNat + d.toNat := by
    rw [BitVec.toNat_ofNat]; omega
  unfold w4
  rw [e]
  have f : ∀ (n : Nat) (u : UInt8), n = u.toNat → n.toUInt8 = u := by
    intro n u h
    subst h
    simp
  rw [f _ a (by omega), f _ b (by omega), f _ c (by omega), f _ d (by omega)]
theorem bytesL_wordL (b : List UInt8) (h : b.length % 4 = 0) : bytesL (wordL b) = b := by
  have key : ∀ k, 4 * k ≤ b.length → bytesL (wordK b k) = b.take (4 * k) := by
    intro k
    induction k with
    | zero => intro _; simp [wordK, bytesL]
    | succ k ih =>
      intro hk
      rw [wordK_succ, bytesL_append, ih (by omega)]
      have g : ∀ r, r < 4 → b.getD (4 * k + r) 0 = b[4 * k + r]?.getD 0 := fun r _ => List.getD_eq_getElem?_getD ..
      have e : bytesL [BitVec.ofNat 32 (pw b k 4)] = [b.getD (4 * k) 0, b.getD (4 * k + 1) 0, b.getD (4 * k + 2) 0, b.getD (4 * k + 3) 0] := by
        rw [pw4]
        have := w4_bytes (b.getD (4 * k) 0) (b.getD (4 * k + 1) 0) (b.getD (4 * k + 2) 0) (b.getD (4 * k + 3) 0)
        simp only [bytesL, List.flatMap_cons, List.flatMap_nil, List.append_nil]
        exact this
      rw [e]
      have t : ∀ m, m < b.length → b.take (m + 1) = b.take m ++ [b.getD m 0] := by
        intro m hm
        rw [List.take_succ_eq_append_getElem hm, List.getD_eq_getElem?_getD, List.getElem?_eq_getElem hm]; rfl
      rw [show 4 * (k + 1) = 4 * k + 1 + 1 + 1 + 1 by omega, t _ (by omega), t _ (by omega), t _ (by omega), t _ (by omega)]
      simp
  have := key (b.length / 4) (by omega)
  rw [wordK_full] at this
  rw [this, show 4 * (b.length / 4) = b.length by omega, List.take_length]
end Wd
end Go.Proofs.Ytfdhogaknlabkaa
namespace Go.Proofs.Ytfdhogaknlabkaa
open Go.RowKit
namespace Hx

/-- The slice at address A reads as the list l, each element one cell, all below block B. -/
def RdG {α : Type} (enc : α → Value) (w : World) (B : Nat) (A : Option Addr) (l : List α) : Prop :=
  0 < l.length → ∃ b off, A = some ⟨b, off, none⟩ ∧ b < B ∧ ∀ j (h : j < l.length), w.cell? ⟨b, off + j, none⟩ = some (enc (l[j]'h))

section
variable {α : Type} {enc : α → Value}
theorem RdG.keep {w w' : World} {B B' : Nat} {A : Option Addr} {l : List α} (h : RdG enc w B A l) (hB : B ≤ B') (hk : ∀ b o, b < B → w'.cell? ⟨b, o, none⟩ = w.cell? ⟨b, o, none⟩) : RdG enc w' B' A l := by
  intro hp
  obtain ⟨b, off, e, hb, hc⟩ := h hp
  exact ⟨b, off, e, by omega, fun j hj => (hk _ _ hb).trans (hc j hj)⟩
theorem RdG.below {w w' : World} {B : Nat} {A : Option Addr} {l : List α} (h : RdG enc w B A l) (hb : Below B w w') : RdG enc w' B A l :=
  h.keep (Nat.le_refl _) fun b o hlt => hb.cell (p := ⟨b, o, none⟩) hlt
theorem RdG.mono {w : World} {B B' : Nat} {A : Option Addr} {l : List α} (h : RdG enc w B A l) (hB : B ≤ B') : RdG enc w B' A l := h.keep hB fun _ _ _ => rfl
/-- Kept through a stretch of the run, up to its end's size. -/
theorem RdG.on {w w' : World} {A : Option Addr} {l : List α} (h : RdG enc w w.heap.size A l) (hb : Below w.heap.size w w') : RdG enc w' w'.heap.size A l := (h.below hb).mono hb.size
theorem RdG.nil (w : World) (B : Nat) (A : Option Addr) : RdG enc w B A [] := fun h => absurd h (by simp)
theorem RdG.of_own {w : World} {base : Nat} {e : TypeId} {A : Option Addr} {n c : Nat} {l : List α} (h : w.ownsRow base e 1 (.slice A n c) n (l.map enc)) : RdG enc w w.heap.size A l ∧ l.length = n := by
  have hl : l.length = n := by have := h.1; rw [List.length_map] at this; omega
  refine ⟨fun hp => ?_, hl⟩
  rcases h.2 with ⟨_, h0⟩ | ⟨g, cap, cur, hv, _, hg, _⟩
  · omega
  injection hv with hA _ _
  subst hA
  have hlt : g < w.heap.size := (Array.getElem?_eq_some_iff.1 hg).1
  refine ⟨g, 0, rfl, hlt, fun j hj => ?_⟩
  have := h.cells (g := g) rfl j (enc (l[j]'hj)) (by simp [hj])
  rw [addr_plain] at this
  exact this
theorem RdG.new (w : World) (t : TypeId) (l : List α) : RdG enc (w.alloc (.cells (l.map enc).toArray t)) (w.heap.size + 1) (some ⟨w.heap.size, 0, none⟩) l := by
  intro _
  refine ⟨_, _, rfl, Nat.lt_succ_self _, fun j hj => ?_⟩
  rw [World.cell?_alloc_new]
  simp [hj]
theorem RdG.newS (w : World) (t : TypeId) (l : List α) : RdG enc (w.alloc (.cells (l.map enc).toArray t)) (w.alloc (.cells (l.map enc).toArray t)).heap.size (some ⟨w.heap.size, 0, none⟩) l :=
  (RdG.new w t l).mono (by simp)
/-- A piece of a slice. -/
theorem RdG.piece {w : World} {B b off : Nat} {l : List α} (h : RdG enc w B (some ⟨b, off, none⟩) l) (k n : Nat) (hk : k + n ≤ l.length) : RdG enc w B (some ⟨b, off + k, none⟩) ((l.drop k).take n) := by
  intro hp
  have hl : ((l.drop k).take n).length = n := by rw [List.length_take, List.length_drop]; omega
  obtain ⟨b', off', e, hb, hc⟩ := h (by omega)
  injection e with e
  injection e with e1 e2
  subst e1 e2
  refine ⟨_, _, rfl, hb, fun j hj => ?_⟩
  have := hc (k + j) (by omega)
  rw [← Nat.add_assoc] at this
  rw [this]
  simp
end

/-- append(own, b...) of a slice of one-cell elements, whatever its address. -/
theorem wpList_append_rdg {α : Type} {enc : α → Value} (h1c : ∀ x, (enc x).oneCell' = true) {P : Program} {w : World} {ops : Array Oper} {rest : List Oper} {o : Oper} {a : Act} {Q : Exit → Act → World → Prop} (hgd : o.guard = none) (s x : Operand) (t : TypeId)
    (ho : o.op = .call { callee := .builtin .append, args := #[s, x], argTypes := #[t, t] })
    (base : Nat) (e : TypeId) (i : TypeInfo) (z : Value) (bytes : Nat) (ht : P.underlying t = some (.slice e)) (hi : P.info? e = some i) (hz : i.zero = some z) (hsize : i.size = 1) (hby : i.bytes = bytes) (hb8 : bytes ≤ 16) (hzs : z.cells.size = 1)
    (v : Value) (n : Nat) (xs : List Value) (hs : a.eval s = v) (hown : w.ownsRow base e 1 v n xs)
    (B : Nat) (A : Option Addr) (m c : Nat) (l : List α) (hx : a.eval x = .slice A m c) (hr : RdG enc w B A l) (hl : l.length = m) (hc0 : A = none → c = 0) (hb : n + m ≤ 1000000000000) (hbase : base ≤ w.heap.size)
    (h : ∀ v' w', w'.ownsRow base e 1 v' (n + m) (xs ++ l.map enc) → w.grownBy w' v.ownBlock → wpList P ops Q rest (a.put o.dst v') w') : wpList P ops Q (o :: rest) a w := by
  rcases A with _ | ad
  · have h0 : l = [] := by
      rcases Nat.eq_zero_or_pos l.length with h0 | h0
      · exact List.eq_nil_of_length_eq_zero h0
      · obtain ⟨_, _, he, _⟩ := hr h0
        cases he
    subst h0
    obtain rfl : 0 = m := hl
    rw [hc0 rfl] at hx
    exact wpList_append_own_none hgd s x t ho base e i 1 ht hi v n xs hs hown hx (h v w (by simpa using hown) (World.grownBy.refl _ _))
  · refine wpList_append_own w hgd s x t ho base e i z 1 bytes ht hi hz hsize hby hzs (by decide) v n xs hs hown ad m c (l.map enc) hx (by rw [List.length_map]; omega) ?_ (fun v hv => by obtain ⟨y, _, rfl⟩ := List.mem_map.1 hv; exact h1c y) (by unfold maxLen; omega) (Nat.le_trans (Nat.mul_le_mul hb hb8) (by decide)) hbase (fun v' w' h1 h2 _ => h v' w' h1 h2)
    intro j u hu
    have hj : j < l.length := by
      have := (List.getElem?_eq_some_iff.1 hu).1
      simpa using this
    obtain ⟨b, off, he, _, hc⟩ := hr (by omega)
    cases he
    rw [addr_plain, hc j hj]
    simpa [hj] using hu

/-- The same at a step of a region that draws its order. -/
theorem step_append_rdg {α : Type} {enc : α → Value} (h1c : ∀ x, (enc x).oneCell' = true) {P : Program} {w : World} {ops : Array Oper} {o : Oper} {a : Act} {K : Act → World → Prop} {Q : Exit → Act → World → Prop} {E : Prop} (hgd : o.guard = none) (s x : Operand) (t : TypeId)
    (ho : o.op = .call { callee := .builtin .append, args := #[s, x], argTypes := #[t, t] })
    (base : Nat) (e : TypeId) (i : TypeInfo) (z : Value) (bytes : Nat) (ht : P.underlying t = some (.slice e)) (hi : P.info? e = some i) (hz : i.zero = some z) (hsize : i.size = 1) (hby : i.bytes = bytes) (hb8 : bytes ≤ 16) (hzs : z.cells.size = 1)
    (v : Value) (n : Nat) (xs : List Value) (hs : a.eval s = v) (hown : w.ownsRow base e 1 v n xs)
    (B : Nat) (A : Option Addr) (m c : Nat) (l : List α) (hx : a.eval x = .slice A m c) (hr : RdG enc w B A l) (hl : l.length = m) (hc0 : A = none → c = 0) (hb : n + m ≤ 1000000000000) (hbase : base ≤ w.heap.size)
    (h : ∀ v' w', w'.ownsRow base e 1 v' (n + m) (xs ++ l.map enc) → w.grownBy w' v.ownBlock → K (a.put o.dst v') w') : if Region.wanted o (yielded ops a.tmps) = true then Oper.wp P o a w K Q else E := by
  have hw : Region.wanted o (yielded ops a.tmps) = true := by simp [Region.wanted, hgd]
  rw [if_pos hw]
  have key : ∃ v' w', (Builtin.append_ #[t, t] o.type #[v, .slice A m c]).run P w = .ok v' w' ∧ w'.ownsRow base e 1 v' (n + m) (xs ++ l.map enc) ∧ w.grownBy w' v.ownBlock := by
    rcases A with _ | ad
    · have h0 : l = [] := by
        rcases Nat.eq_zero_or_pos l.length with h0 | h0
        · exact List.eq_nil_of_length_eq_zero h0
        · obtain ⟨_, _, he, _⟩ := hr h0
          cases he
      subst h0
      obtain rfl : 0 = m := hl
      rw [hc0 rfl]
      exact ⟨v, w, run_append_owned_none w base t o.type e i 1 ht hi v n xs hown, by simpa using hown, World.grownBy.refl _ _⟩
    · obtain ⟨v', w', hr', h2, h3, _⟩ := run_append_own (P := P) w base t o.type e i z 1 bytes ht hi hz hsize hby hzs (by decide) v n xs hown ad m c (l.map enc) (by rw [List.length_map]; omega) (by
          intro j u hu
          have hj : j < l.length := by
            have := (List.getElem?_eq_some_iff.1 hu).1
            simpa using this
          obtain ⟨b, off, he, _, hc⟩ := hr (by omega)
          cases he
          rw [addr_plain, hc j hj]
          simpa [hj] using hu) (fun v hv => by obtain ⟨y, _, rfl⟩ := List.mem_map.1 hv; exact h1c y) (by unfold maxLen; omega) (Nat.le_trans (Nat.mul_le_mul hb hb8) (by decide)) hbase
      exact ⟨v', w', hr', h2, h3⟩
  obtain ⟨v', w', hrun, h2, h3⟩ := key
  unfold Oper.wp execOp
  simp only [ho, resolve, invoke, builtin, Sem.run_bind, Sem.run_pure, Result.andThen_ok, List.map_toArray, List.map_cons, List.map_nil, hs, hx, hrun]
  exact h v' w' h2 h3

/-- s[k:] and s[:k] of a slice, with an address that reads as the list's end, or beginning. -/
theorem slice_from {α : Type} {enc : α → Value} {P : Program} (t e : TypeId) (ht : P.underlying t = some (.slice e)) (i : TypeInfo) (hi : P.info? e = some i) (hsz : i.size = 1) {w : World} {B : Nat} {A : Option Addr} {l : List α} {n c : Nat} (hr : RdG enc w B A l) (hn : l.length = n) (hc0 : A = none → c = 0) (k : Nat) (hk : k ≤ n) (hnc : n ≤ c) :
    ∃ A', RdG enc w B A' (l.drop k) ∧ (A' = none → c - k = 0) ∧ ∀ W, (Instr.slice t (.slice A n c) (some (.int .i64 (k : Int))) none none).run P W = .ok (.slice A' (n - k) (c - k)) W := by
  have htt : P.underlying t = some (.slice (P.elem t)) := by rw [show P.elem t = e by simp [Program.elem, ht]]; exact ht
  have he : P.elem t = e := by simp [Program.elem, ht]
  have run : ∀ W, (Instr.slice t (.slice A n c) (some (.int .i64 (k : Int))) none none).run P W = .ok (.slice (if c = k then A else A.map (·.add (k * 1))) (n - k) (c - k)) W := by
    intro W
    have hs : (sizeOf e).run P W = .ok 1 W := by simp [sizeOf, typeInfo, hi, hsz]
    rw [run_slice_l W t A n c htt .i64 (k : Int) (by omega) (by omega), he, hs]
    rfl
  by_cases hck : c = k
  · refine ⟨A, ?_, fun _ => by omega, fun W => by rw [run W, if_pos hck]⟩
    have : l.drop k = [] := List.drop_eq_nil_of_le (by omega)
    rw [this]
    exact RdG.nil _ _ _
  · refine ⟨A.map (·.add (k * 1)), ?_, ?_, fun W => by rw [run W, if_neg hck]⟩
    · intro hp
      have hlt : k < l.length := by rw [List.length_drop] at hp; omega
      obtain ⟨b, off, rfl, hb, hc⟩ := hr (by omega)
      refine ⟨b, off + k, by simp [addr_plain], hb, fun j hj => ?_⟩
      have hj' : k + j < l.length := by rw [List.length_drop] at hj; omega
      have := hc (k + j) hj'
      rw [← Nat.add_assoc] at this
      rw [this]
      simp
    · intro h
      have : A = none := by simpa using h
      have := hc0 this
      omega
theorem slice_to {α : Type} {enc : α → Value} {P : Program} (t e : TypeId) (ht : P.underlying t = some (.slice e)) (i : TypeInfo) (hi : P.info? e = some i) (hsz : i.size = 1) {w : World} {B : Nat} {A : Option Addr} {l : List α} {n c : Nat} (hr : RdG enc w B A l) (hn : l.length = n) (hc0 : A = none → c = 0) (k : Nat) (hk : k ≤ n) (hnc : n ≤ c) :
    ∃ A', RdG enc w B A' (l.take k) ∧ (A' = none → c = 0) ∧ ∀ W, (Instr.slice t (.slice A n c) none (some (.int .i64 (k : Int))) none).run P W = .ok (.slice A' k c) W := by
  have htt : P.underlying t = some (.slice (P.elem t)) := by rw [show P.elem t = e by simp [Program.elem, ht]]; exact ht
  have he : P.elem t = e := by simp [Program.elem, ht]
  have run : ∀ W, (Instr.slice t (.slice A n c) none (some (.int .i64 (k : Int))) none).run P W = .ok (.slice (if c = 0 then A else A.map (·.add (0 * 1))) (k - 0) (c - 0)) W := by
    intro W
    have hs : (sizeOf e).run P W = .ok 1 W := by simp [sizeOf, typeInfo, hi, hsz]
    rw [run_slice_h W t A n c htt .i64 (k : Int) (by omega) (by omega), he, hs]
    rfl
  by_cases hck : c = 0
  · refine ⟨A, ?_, fun _ => hck, fun W => by rw [run W, if_pos hck]; rfl⟩
    have : l.take k = [] := by have : k = 0 := by omega
                               simp [this]
    rw [this]
    exact RdG.nil _ _ _
  · refine ⟨A.map (·.add (0 * 1)), ?_, ?_, fun W => by rw [run W, if_neg hck]; rfl⟩
    · intro hp
      have hlt : 0 < l.length := by rw [List.length_take] at hp; omega
      obtain ⟨b, off, rfl, hb, hc⟩ := hr hlt
      refine ⟨b, off, by simp [addr_plain], hb, fun j hj => ?_⟩
      have hj' : j < l.length := by rw [List.length_take] at hj; omega
      rw [hc j hj']
      simp
    · intro h
      have : A = none := by simpa using h
      exact hc0 this

/-- Words. -/
def encW (x : Wd.W32) : Value := .int .u32 (x.toNat : Int)
theorem encW_one (x : Wd.W32) : (encW x).oneCell' = true := rfl
abbrev RdW := @RdG Wd.W32 encW
theorem bounds_u32 {n : Int} (h : (Lit.int .u32 n).wf = true) : 0 ≤ n ∧ n ≤ 4294967295 := by
  simp only [Lit.wf, Bool.and_eq_true, decide_eq_true_eq] at h
  have h1 : IntKind.u32.min = 0 := rfl
  have h2 : IntKind.u32.max = 4294967295 := rfl
  omega
theorem bounds_i64 {n : Int} (h : (Lit.int .i64 n).wf = true) : -9223372036854775808 ≤ n ∧ n ≤ 9223372036854775807 := by
  simp only [Lit.wf, Bool.and_eq_true, decide_eq_true_eq] at h
  have h1 : IntKind.i64.min = -9223372036854775808 := rfl
  have h2 : IntKind.i64.max = 9223372036854775807 := rfl
  omega
theorem word_of {n : Int} (h : (Lit.int .u32 n).wf = true) : ∃ x : Wd.W32, n = (x.toNat : Int) := by
  have := bounds_u32 h
  refine ⟨BitVec.ofNat 32 n.toNat, ?_⟩
  rw [BitVec.toNat_ofNat]
  omega
theorem word_lt (x : Wd.W32) : ((x.toNat : Nat) : Int) < 4294967296 := by have := x.isLt; omega
/-- What a slice of words that came in reads as. -/
theorem rdW_of_row {w : World} {x : Addr} {len cap : Nat} {zs : List Int} (hl : len ≤ cap) (hz : zs.length = cap)
    (hcell : ∀ i, i < zs.length → w.cell? (x.add i) = some (.int .u32 (zs.getD i 0))) (hwz : ∀ n ∈ zs, (Lit.int .u32 n).wf = true) :
    ∃ l : List Wd.W32, RdW w w.heap.size (some x) l ∧ l.length = len := by
  refine ⟨(zs.take len).map fun n => BitVec.ofNat 32 n.toNat, fun hp => ?_, by simp; omega⟩
  have hp' : 0 < len := by
    simp at hp
    omega
  obtain ⟨b, off, spot⟩ := x
  have hspot : spot = none := by simpa [Addr.add] using World.cell?_spot (hcell 0 (by omega))
  subst hspot
  refine ⟨b, off, rfl, ?_, fun j hj => ?_⟩
  · have := hcell 0 (by omega)
    rw [addr_plain] at this
    exact World.block_lt_of_cell? (a := ⟨b, off + 0, none⟩) w this
  · have hj' : j < len := by
      simp at hj
      omega
    have hjz : j < zs.length := by omega
    have := hcell j hjz
    rw [addr_plain] at this
    rw [this]
    have hw := bounds_u32 (hwz _ (List.getElem_mem hjz))
    simp [List.getD, hjz, encW]
    omega
theorem ret_w {a b : Int} (h : a = b) : Ending.returned (.int .u32 a) = .returned (.int .u32 b) := by rw [h]
theorem ret_i {a b : Int} (h : a = b) : Ending.returned (.int .i64 a) = .returned (.int .i64 b) := by rw [h]
end Hx
end Go.Proofs.Ytfdhogaknlabkaa
