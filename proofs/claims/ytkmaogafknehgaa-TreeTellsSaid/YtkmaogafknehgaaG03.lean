/-
  Texts of one seat, put together: LexS, LeaA, LeaB, TextN, TextR, TextO.
-/
import Derived.Test.YtkmaogafknehgaaG02
import Derived.Test.YtkmaogafknehgaaG01
import Derived.Test.YtkmaogafknehgaaShelf
import Derived.Lib.IndexLaws
import Derived.RegionTactic
import Derived.Test.YtkmaogafknehgaaG00
import Derived.ChangeAlike
import Derived.IntWalk
import Derived.Deep.RegionHeld3
namespace Go.Proofs.Ytkmaogafknehgaa
open Go.RowKit
namespace Hx
open Lx
set_option linter.unusedVariables false
theorem cutC_at {l : List UInt8} {k : Nat} (h : k < l.length) (h1 : (58 : UInt8) ∉ l.take k) (h2 : l[k]'h = 58) : cutC l = some (l.take k, l.drop (k + 1)) := by
  have e : l = l.take k ++ 58 :: l.drop (k + 1) := by rw [← h2, ← List.drop_eq_getElem_cons h, List.take_append_drop]
  have gen : ∀ (a b : List UInt8), (58 : UInt8) ∉ a → cutC (a ++ 58 :: b) = some (a, b) := by
    intro a
    induction a with
    | nil => intro b _; show (if (58 : UInt8) = 58 then _ else _) = _; rw [if_pos rfl]
    | cons c a ih =>
      intro b hn
      rw [List.mem_cons, not_or] at hn
      show (if c = 58 then _ else _) = _
      rw [if_neg (Ne.symm hn.1)]
      show Option.map _ (cutC (a ++ 58 :: b)) = _
      rw [ih b hn.2]
      rfl
  have := gen _ (l.drop (k + 1)) h1
  rwa [← e] at this
theorem cutC_no {l : List UInt8} (h : (58 : UInt8) ∉ l) : cutC l = none := by
  induction l with
  | nil => rfl
  | cons c l ih =>
    rw [List.mem_cons, not_or] at h
    show (if c = 58 then _ else _) = _
    rw [if_neg (Ne.symm h.1), ih h.2]
    rfl
/-- What Parts answers. -/
def PartsTo (s : ByteArray) (w : World) (e : Ending) (w' : World) : Prop := (∃ n, w' = w.drewN n) ∧
  ((∃ x y : ByteArray, cutC s.data.toList = some (x.data.toList, y.data.toList) ∧ e = .returned (.tuple #[.string x, .string y, .bool true])) ∨ (cutC s.data.toList = none ∧ e = .returned (.tuple #[.string ⟨#[]⟩, .string s, .bool false])))
set_option maxHeartbeats 2000000 in
set_option maxRecDepth 100000 in
theorem rparts9 (s : ByteArray) (w : World) (hm : s.size ≤ 1000000) : Calls Try.prog 64 #[.string s] w (PartsTo s w) := by
  have HM := Lib.hid hm
  clear hm
  go_enter Try.func64, Try.ntmps64
  go_wp2_with fail
  go_loopw [5] (fun i wr => ∃ k : Nat, k ≤ s.size ∧ i = .int .i64 k ∧ (58 : UInt8) ∉ s.data.toList.take k ∧ w = wr) (fun i _ => s.size - (intOf i).toNat)
  case atStart => exact ⟨0, Nat.zero_le _, rfl, by simp, by first | rfl | trivial⟩
  case round =>
    obtain ⟨k, hk, rfl, hn, rfl⟩ := hrel
    have hs := HM.out
    by_cases hlt : k < s.size
    · obtain ⟨c, hc⟩ : ∃ c, s[k]'hlt = c := ⟨_, rfl⟩
      have hca : ∀ h, s[k]'h = c := fun _ => hc
      have hkl : k < s.data.toList.length := by rw [ba_l]; exact hlt
      have hck : s.data.toList[k]'hkl = c := (at_l s k hlt).trans hc
      have bk : (0 : Int) ≤ (k : Int) ∧ (k : Int) < (s.size : Int) := by omega
      have hcl := c.toNat_lt
      by_cases h58 : c.toNat = 58
      · have e58 : c = 58 := UInt8.toNat_inj.1 h58
        have f58 : ((c.toNat : Int) == 58) = true := by simp; omega
        obtain ⟨x, hx⟩ : ∃ x, s.extract 0 k = x := ⟨_, rfl⟩
        obtain ⟨y, hy⟩ : ∃ y, s.extract (k + 1) s.size = y := ⟨_, rfl⟩
        have HC : Hid (cutC s.data.toList = some (x.data.toList, y.data.toList)) := Lib.hid (by
          rw [cutC_at hkl hn (hck.trans e58), ← hx, ← hy, extract_l s 0 k hk, extract_l s (k + 1) s.size (Nat.le_refl _), List.drop_zero, Nat.sub_zero, List.take_of_length_le (l := s.data.toList.drop (k + 1)) (by rw [List.length_drop, ba_l]; omega)])
        clear hck hc hn e58 h58
        go_wp2_with fail
        go_region
        go_wp2_with fail
        refine bodyPost_ret (v := .tuple #[.string x, .string y, .bool true]) ?_ rfl ⟨⟨1, rfl⟩, .inl ⟨x, y, HC.out, rfl⟩⟩
        simp [results, Try.results64, go_sem]
      · have f58 : ((c.toNat : Int) == 58) = false := by simp; omega
        have HV : Hid ((58 : UInt8) ∉ s.data.toList.take (k + 1)) := Lib.hid (by
          rw [List.take_succ_eq_append_getElem hkl, hck, List.mem_append, not_or]
          refine ⟨hn, ?_⟩
          rw [List.mem_singleton]
          rintro rfl
          exact h58 rfl)
        clear hck hc hn h58
        go_wp2_with fail
        go_roundw
        case rel => exact ⟨k + 1, hlt, by go_num, HV.out, by first | rfl | trivial⟩
        case measure => simp [intOf]; omega
    · obtain rfl : k = s.size := by omega
      have HC : Hid (cutC s.data.toList = none) := Lib.hid (by
        rw [List.take_of_length_le (by rw [ba_l]; omega)] at hn
        exact cutC_no hn)
      clear hn
      go_wp2_with fail
      refine bodyPost_ret (v := .tuple #[.string ⟨#[]⟩, .string s, .bool false]) ?_ rfl ⟨⟨0, rfl⟩, .inr ⟨HC.out, rfl⟩⟩
      simp [results, Try.results64, go_sem]
theorem ex_size {l : List UInt8} {x y : ByteArray} (h : cutC l = some (x.data.toList, y.data.toList)) : x.size + y.size + 1 = l.length := by
  have := congrArg List.length (cutC_some h).1
  rw [List.length_append, List.length_cons, ba_l, ba_l] at this
  omega
theorem rparts_some (s x y : ByteArray) (w : World) (hm : s.size ≤ 1000000) (h : cutC s.data.toList = some (x.data.toList, y.data.toList)) : Calls Try.prog 64 #[.string s] w fun e w' => e = .returned (.tuple #[.string x, .string y, .bool true]) ∧ ∃ n, w' = w.drewN n :=
  (rparts9 s w hm).mono fun e w' hp => by
    obtain ⟨hb, ⟨x', y', h1, h2⟩ | ⟨h1, _⟩⟩ := hp
    · rw [h] at h1
      obtain ⟨e1, e2⟩ := (Prod.mk.injEq _ _ _ _).mp (Option.some.inj h1)
      rw [ba_x e1, ba_x e2]
      exact ⟨h2, hb⟩
    · rw [h] at h1; cases h1
theorem rparts_none (s : ByteArray) (w : World) (hm : s.size ≤ 1000000) (h : cutC s.data.toList = none) : Calls Try.prog 64 #[.string s] w fun e w' => e = .returned (.tuple #[.string ⟨#[]⟩, .string s, .bool false]) ∧ ∃ n, w' = w.drewN n :=
  (rparts9 s w hm).mono fun e w' hp => by
    obtain ⟨hb, ⟨x', y', h1, h2⟩ | ⟨h1, h2⟩⟩ := hp
    · rw [h] at h1; cases h1
    · exact ⟨h2, hb⟩
set_option maxHeartbeats 2000000 in
set_option maxRecDepth 100000 in
theorem rfull9q (s : ByteArray) (w : World) (hm : s.size ≤ 1000000) (b : Bool) (h : fullL s.data.toList = b) :
    Calls Try.prog 58 #[.string s] w fun e w' => e = .returned (.bool b) ∧ ∃ n, w' = w.drewN n := by
  unfold fullL at h
  have HM := Lib.hid hm
  cases hc : cutC s.data.toList with
  | none =>
    rw [hc] at h
    have HC := Lib.hid hc
    have HH : Hid (nameL s.data.toList = b) := h
    clear hc h hm
    cases b <;> (
      go_enter Try.func58, Try.ntmps58
      go_wp2_with (first
        | (go_at_call 64; (with_reducible refine (rparts_none s w HM.out HC.out).mono ?_); rintro e w1 ⟨rfl, n1, rfl⟩)
        | (go_at_call 65; (with_reducible refine (rname9 s _ HM.out _ HH.out).mono ?_); rintro e w2 ⟨rfl, rfl⟩)
        | fail)
      go_ret
      exact ⟨rfl, n1, rfl⟩)
  | some p =>
    obtain ⟨a, c⟩ := p
    rw [hc] at h
    dsimp only at h
    obtain ⟨x, hx⟩ : ∃ x : ByteArray, x.data.toList = a := ⟨⟨a.toArray⟩, rfl⟩
    obtain ⟨y, hy⟩ : ∃ y : ByteArray, y.data.toList = c := ⟨⟨c.toArray⟩, rfl⟩
    subst hx hy
    have hsz := ex_size hc
    rw [ba_l] at hsz
    have HX : Hid (x.size ≤ 1000000) := Lib.hid (by omega)
    have HY : Hid (y.size ≤ 1000000) := Lib.hid (by omega)
    obtain ⟨b1, h1⟩ : ∃ b1, nameL y.data.toList = b1 := ⟨_, rfl⟩
    obtain ⟨b2, h2⟩ : ∃ b2, nameL x.data.toList = b2 := ⟨_, rfl⟩
    rw [h1, h2] at h
    have HC := Lib.hid hc
    have H1 := Lib.hid h1
    have H2 := Lib.hid h2
    clear hc h1 h2 hm hsz
    subst h
    cases b1
    · go_enter Try.func58, Try.ntmps58
      go_wp2_with (first
        | (go_at_call 64; (with_reducible refine (rparts_some s x y w HM.out HC.out).mono ?_); rintro e w1 ⟨rfl, n1, rfl⟩)
        | (go_at_call 65; (with_reducible refine (rname9 y _ HY.out _ H1.out).mono ?_); rintro e w2 ⟨rfl, rfl⟩)
        | fail)
      go_ret
      exact ⟨rfl, n1, rfl⟩
    · cases b2 <;> (
      go_enter Try.func58, Try.ntmps58
      go_wp2_with (first
        | (go_at_call 64; (with_reducible refine (rparts_some s x y w HM.out HC.out).mono ?_); rintro e w1 ⟨rfl, n1, rfl⟩)
        | (go_at_call 65; (with_reducible refine (rname9 y _ HY.out _ H1.out).mono ?_); rintro e w2 ⟨rfl, rfl⟩)
        | (go_at_call 65; (with_reducible refine (rname9 x _ HX.out _ H2.out).mono ?_); rintro e w3 ⟨rfl, rfl⟩)
        | fail)
      go_ret
      exact ⟨rfl, n1, rfl⟩)
theorem rfull9 (s : ByteArray) (w : World) (hm : s.size ≤ 1000000) (b : Bool) (h : fullL s.data.toList = b) :
    Calls Try.prog 58 #[.string s] w fun e w' => e = .returned (.bool b) ∧ Below w.heap.size w w' :=
  (rfull9q s w hm b h).mono fun e w' ⟨h1, n, h2⟩ => ⟨h1, by rw [h2]; exact ⟨rfl, rfl, rfl, Nat.le_refl _, fun _ _ => rfl⟩⟩
theorem tw_next {p : UInt8 → Bool} {l : List UInt8} {n : Nat} (h : n < l.length) (h1 : (l.take n).all p = true) : (p (l[n]'h) = true → (l.take (n + 1)).all p = true) ∧ (p (l[n]'h) = false → l.takeWhile p = l.take n) := by
  refine ⟨fun h2 => ?_, fun h2 => ?_⟩
  · rw [List.take_succ_eq_append_getElem h, List.all_append, h1]
    simp [h2]
  · have e : l = l.take n ++ l.drop n := (List.take_append_drop n l).symm
    conv => lhs; rw [e]
    refine (tw_app (List.all_eq_true.1 h1) fun c r e2 => ?_).1
    rw [List.drop_eq_getElem_cons h] at e2
    rw [← (List.cons.inj e2).1]
    exact h2
theorem tw_all {p : UInt8 → Bool} {l : List UInt8} (h1 : l.all p = true) : l.takeWhile p = l := by
  have := (tw_app (b := []) (List.all_eq_true.1 h1) (fun c r e => by cases e)).1
  rwa [List.append_nil] at this
theorem wch_not {c : UInt8} (h : ltr c = false) : wch c = (decide (48 ≤ c.toNat) && decide (c.toNat ≤ 57) || c == 46 || c == 45 || c == 58) := by unfold wch; rw [nch_not h]
end Hx
end Go.Proofs.Ytkmaogafknehgaa
namespace Go.Proofs.Ytkmaogafknehgaa
namespace Lx
open Tx Nmb Es
set_option linter.unusedVariables false
/-- Are the names new, behind others? -/
def fresh : List Pr → List Pr → Bool
  | _, [] => true
  | acc, p :: r => !hasL acc p.name && fresh (acc ++ [p]) r
theorem fresh_snoc : ∀ (l acc : List Pr) (p : Pr), fresh acc (l ++ [p]) = (fresh acc l && !hasL (acc ++ l) p.name) := by
  intro l
  induction l with
  | nil => intro acc p; simp [fresh]
  | cons q l ih =>
    intro acc p
    rw [List.cons_append]
    show (!hasL acc q.name && fresh (acc ++ [q]) (l ++ [p])) = ((!hasL acc q.name && fresh (acc ++ [q]) l) && _)
    rw [ih, List.append_assoc, List.singleton_append, Bool.and_assoc]
/-- How many different names there are. -/
def dis : List Pr → List Pr → Nat
  | _, [] => 0
  | acc, p :: r => (if hasL acc p.name then 0 else 1) + dis (acc ++ [p]) r
theorem dis_snoc : ∀ (l acc : List Pr) (p : Pr), dis acc (l ++ [p]) = dis acc l + (if hasL (acc ++ l) p.name then 0 else 1) := by
  intro l
  induction l with
  | nil => intro acc p; simp [dis]
  | cons q l ih =>
    intro acc p
    rw [List.cons_append]
    show (if hasL acc q.name then 0 else 1) + dis (acc ++ [q]) (l ++ [p]) = ((if hasL acc q.name then 0 else 1) + dis (acc ++ [q]) l) + _
    rw [ih, List.append_assoc, List.singleton_append, Nat.add_assoc]
theorem dis_le : ∀ (l acc : List Pr), dis acc l ≤ l.length ∧ (dis acc l = l.length ↔ fresh acc l = true) := by
  intro l
  induction l with
  | nil => intro acc; simp [dis, fresh]
  | cons q l ih =>
    intro acc
    obtain ⟨h1, h2⟩ := ih (acc ++ [q])
    unfold dis fresh
    rw [List.length_cons]
    cases hh : hasL acc q.name
    · simp
      refine ⟨by omega, ?_⟩
      rw [← h2]
      omega
    · simp
      omega
theorem attrsF_fresh : ∀ (l acc : List Pr), attrsF acc l = (fresh acc l && l.all fun p => fullL p.name && okT p.value) := by
  intro l
  induction l with
  | nil => intro acc; rfl
  | cons p l ih =>
    intro acc
    unfold attrsF fresh
    rw [ih, List.all_cons]
    cases fullL p.name <;> cases hasL acc p.name <;> cases okT p.value <;> simp
/-- The tag whose name stands ahead of a text, names that come twice let through. -/
def tagN : Nat → List UInt8 → Option (Bool × List Pr × List UInt8)
  | 0, _ => none
  | f + 1, l => match l.dropWhile blk with
    | [] => none
    | c :: x => if c = 62 then some (false, [], x) else if c = 47 ∧ x.head? = some 62 then some (true, [], x.tail) else
      match attrL (c :: x) with
      | none => none
      | some (p, y) => if l.length = (c :: x).length then none else (tagN f y).map fun q => (q.1, p :: q.2.1, q.2.2)
theorem tagN_same : ∀ (f g : Nat) (l : List UInt8), l.length < f → l.length < g → tagN f l = tagN g l := by
  intro f
  induction f with
  | zero => intro g l h; omega
  | succ f ih =>
    intro g l h1 h2
    cases g with
    | zero => omega
    | succ g =>
      unfold tagN
      have hd := dropWhile_len blk l
      cases hb : l.dropWhile blk with
      | nil => rfl
      | cons c x =>
        dsimp only
        split
        · rfl
        split
        · rfl
        cases ha : attrL (c :: x) with
        | none => rfl
        | some q =>
          obtain ⟨p, y⟩ := q
          have hl := attrL_len ha
          rw [hb] at hd
          dsimp only
          split
          · rfl
          rw [ih g y (by omega) (by omega)]
/-- .. and then asked. -/
theorem tagF_N : ∀ (f : Nat) (acc : List Pr) (l : List UInt8), tagF f acc l = match tagN f l with
    | none => none
    | some (b, m, x) => if fresh acc m = true then some (b, acc ++ m, x) else none := by
  intro f
  induction f with
  | zero => intro acc l; rfl
  | succ f ih =>
    intro acc l
    unfold tagF tagN
    cases hb : l.dropWhile blk with
    | nil => rfl
    | cons c x =>
      dsimp only
      by_cases h1 : c = 62
      · rw [if_pos h1, if_pos h1]
        simp [fresh]
      rw [if_neg h1, if_neg h1]
      by_cases h2 : c = 47 ∧ x.head? = some 62
      · rw [if_pos h2, if_pos h2]
        simp [fresh]
      rw [if_neg h2, if_neg h2]
      cases ha : attrL (c :: x) with
      | none => rfl
      | some q =>
        obtain ⟨p, y⟩ := q
        dsimp only
        by_cases h3 : l.length = (c :: x).length
        · rw [if_pos (.inl h3), if_pos h3]
        · rw [if_neg h3]
          by_cases h4 : hasL acc p.name = true
          · rw [if_pos (.inr h4)]
            cases tagN f y with
            | none => rfl
            | some r =>
              obtain ⟨b, m, z⟩ := r
              simp [fresh, h4]
          · rw [if_neg (by rintro (h | h); exact h3 h; exact h4 h), ih]
            cases tagN f y with
            | none => rfl
            | some r =>
              obtain ⟨b, m, z⟩ := r
              simp [fresh, h4]
def tagH (l : List UInt8) : Option (Bool × List Pr × List UInt8) := tagN (l.length + 1) l
theorem tagH_nil {l : List UInt8} (h : l.dropWhile blk = []) : tagH l = none := by unfold tagH tagN; rw [h]
theorem tagH_shut {l x : List UInt8} (h : l.dropWhile blk = 62 :: x) : tagH l = some (false, [], x) := by unfold tagH tagN; rw [h]; simp
theorem tagH_bare {l x : List UInt8} (h : l.dropWhile blk = 47 :: 62 :: x) : tagH l = some (true, [], x) := by unfold tagH tagN; rw [h]; simp
/-- No end of a tag stands here. -/
def noEnd9 (l : List UInt8) : Prop := l.head? ≠ some 62 ∧ l.take 2 ≠ [47, 62]
theorem noEnd9_cons {c : UInt8} {x : List UInt8} (h : noEnd9 (c :: x)) : c ≠ 62 ∧ ¬ (c = 47 ∧ x.head? = some 62) := by
  obtain ⟨h1, h2⟩ := h
  refine ⟨fun e => h1 (by rw [e]; rfl), ?_⟩
  rintro ⟨rfl, h4⟩
  cases x with
  | nil => cases h4
  | cons d x => injection h4 with h4; exact h2 (by rw [h4]; rfl)
theorem tagH_none {l : List UInt8} (h : noEnd9 (l.dropWhile blk)) (h2 : (l.dropWhile blk).length = l.length ∨ attrL (l.dropWhile blk) = none) : tagH l = none := by
  unfold tagH tagN
  cases hb : l.dropWhile blk with
  | nil => rfl
  | cons c x =>
    rw [hb] at h h2
    obtain ⟨h3, h4⟩ := noEnd9_cons h
    dsimp only
    rw [if_neg h3, if_neg h4]
    rcases h2 with h2 | h2
    · cases attrL (c :: x) with
      | none => rfl
      | some q => dsimp only; rw [if_pos h2.symm]
    · rw [h2]
theorem tagH_next {l y : List UInt8} {p : Pr} (h : noEnd9 (l.dropWhile blk)) (h2 : (l.dropWhile blk).length ≠ l.length) (ha : attrL (l.dropWhile blk) = some (p, y)) : tagH l = (tagH y).map fun q => (q.1, p :: q.2.1, q.2.2) := by
  have hd := dropWhile_len blk l
  have hl := attrL_len ha
  unfold tagH
  conv => lhs; unfold tagN
  cases hb : l.dropWhile blk with
  | nil => rw [hb] at ha; cases ha
  | cons c x =>
    rw [hb] at h h2 ha hd hl
    obtain ⟨h3, h4⟩ := noEnd9_cons h
    dsimp only
    rw [if_neg h3, if_neg h4, ha]
    dsimp only
    rw [if_neg (fun e => h2 e.symm), tagN_same l.length (y.length + 1) y (by omega) (by omega)]
/-- The tag behind < and a name. -/
theorem tagL_H {l : List UInt8} (h47 : l.head? ≠ some 47) (hw : wordL l ≠ []) : tagL l = match tagH (l.drop (wordL l).length) with
    | none => none
    | some (b, m, x) => if fresh [] m = true then some (⟨if b then 3 else 1, wordL l, m, []⟩, x) else none := by
  unfold tagL tagH
  rw [if_neg h47, if_neg hw, tagF_N, tagN_same (l.length + 1) ((l.drop (wordL l).length).length + 1) _ (by rw [List.length_drop]; omega) (by omega)]
  cases tagN ((l.drop (wordL l).length).length + 1) (l.drop (wordL l).length) with
  | none => rfl
  | some r =>
    obtain ⟨b, m, x⟩ := r
    dsimp only
    by_cases hf : fresh [] m = true
    · rw [if_pos hf, if_pos hf]
      simp
    · rw [if_neg hf, if_neg hf]
      rfl
theorem tagL_no {l : List UInt8} (h47 : l.head? ≠ some 47) (hw : wordL l = []) : tagL l = none := by unfold tagL; rw [if_neg h47, if_pos hw]
theorem tagL_47 {l : List UInt8} : tagL (47 :: l) = shutL l := by unfold tagL; simp
theorem tw_len (p : UInt8 → Bool) (l : List UInt8) : l.drop (l.takeWhile p).length = l.dropWhile p ∧ l.take (l.takeWhile p).length = l.takeWhile p := by
  induction l with
  | nil => simp
  | cons c l ih =>
    by_cases h : p c = true
    · rw [List.takeWhile_cons_of_pos h, List.dropWhile_cons_of_pos h, List.length_cons, List.drop_succ_cons, List.take_succ_cons, ih.1, ih.2]
      exact ⟨rfl, rfl⟩
    · rw [List.takeWhile_cons_of_neg h, List.dropWhile_cons_of_neg h]
      exact ⟨rfl, rfl⟩
/-- Full names: what stands there, if it is one. -/
theorem wordL_of (l : List UInt8) : (fullL (l.takeWhile wch) = true → wordL l = l.takeWhile wch ∧ wordL l ≠ [] ∧ l.drop (wordL l).length = l.dropWhile wch) ∧ (fullL (l.takeWhile wch) = false → wordL l = []) := by
  refine ⟨fun h => ?_, fun h => ?_⟩
  · have e : wordL l = l.takeWhile wch := by unfold wordL; rw [if_pos h]
    refine ⟨e, by rw [e]; exact fullL_ne h, ?_⟩
    rw [e]
    exact (tw_len wch l).1
  · unfold wordL
    rw [if_neg (by rw [h]; decide)]
/-- What is not a sign. -/
def ne (q c : UInt8) : Bool := c != q
theorem ne_iff (q c : UInt8) : ne q c = true ↔ c ≠ q := by unfold ne; simp
theorem cutQ_ne (q : UInt8) (l : List UInt8) : cutQ q l = match l.dropWhile (ne q) with | [] => none | _ :: y => some (l.takeWhile (ne q), y) := by
  obtain ⟨h1, h2, h3⟩ := tw_split (ne q) l
  cases hd : l.dropWhile (ne q) with
  | nil =>
    rw [hd, List.append_nil] at h1
    dsimp only
    refine cutQ_none fun hm => ?_
    rw [h1] at hm
    exact (ne_iff q q).1 (h2 q hm) rfl
  | cons c y =>
    have hc := h3 c y hd
    have : c = q := by unfold ne at hc; simpa using hc
    subst this
    rw [hd] at h1
    dsimp only
    conv => lhs; rw [h1]
    refine cutQ_of y fun hm => (ne_iff c c).1 (h2 c hm) rfl
theorem txt_ne : txt = ne 60 := rfl
end Lx
end Go.Proofs.Ytkmaogafknehgaa
namespace Go.Proofs.Ytkmaogafknehgaa
open Go.RowKit
namespace Hx
open Lx
set_option linter.unusedVariables false
theorem cut_uniq {c : UInt8} : ∀ {a a' b b' : List UInt8}, a ++ c :: b = a' ++ c :: b' → c ∉ a → c ∉ a' → a = a' ∧ b = b' := by
  intro a
  induction a with
  | nil =>
    intro a' b b' h _ h2
    cases a' with
    | nil => injection h with _ h; exact ⟨rfl, h⟩
    | cons d a' => injection h with h _; exact absurd (by rw [h]; simp) h2
  | cons d a ih =>
    intro a' b b' h h1 h2
    cases a' with
    | nil => injection h with h _; exact absurd (by rw [← h]; simp) h1
    | cons d' a' =>
      injection h with e h
      rw [List.mem_cons, not_or] at h1 h2
      obtain ⟨q1, q2⟩ := ih h h1.2 h2.2
      exact ⟨by rw [e, q1], q2⟩
theorem xix_cases (l : List UInt8) (c : UInt8) : (Lib.indexByte l c = -1 ∧ c ∉ l) ∨ ∃ i : Nat, Lib.indexByte l c = (i : Int) ∧ i < l.length ∧ l = l.take i ++ c :: l.drop (i + 1) ∧ c ∉ l.take i := by
  have hge := Lib.indexByte_ge l c
  by_cases h : Lib.indexByte l c = -1
  · left
    refine ⟨h, fun hc => ?_⟩
    obtain ⟨k, hk⟩ := List.mem_iff_getElem?.1 hc
    exact Lib.indexByte_none h k hk
  · right
    obtain ⟨i, hi⟩ : ∃ i : Nat, Lib.indexByte l c = (i : Int) := ⟨(Lib.indexByte l c).toNat, by omega⟩
    obtain ⟨h1, h2⟩ := Lib.indexByte_some hi
    obtain ⟨hlt, hc⟩ := List.getElem?_eq_some_iff.1 h1
    refine ⟨i, hi, hlt, ?_, fun hm => ?_⟩
    · conv => lhs; rw [← List.take_append_drop i l]
      rw [List.drop_eq_getElem_cons hlt, hc]
    · obtain ⟨k, hk⟩ := List.mem_iff_getElem?.1 hm
      rw [List.getElem?_take] at hk
      split at hk
      · exact h2 k (by assumption) hk
      · cases hk
theorem cutC_some9 {l : List UInt8} (h : (58 : UInt8) ∈ l) : (cutC l).isSome = true := by
  induction l with
  | nil => cases h
  | cons c l ih =>
    show (if c = 58 then _ else _ : Option _).isSome = true
    split
    · rfl
    · rename_i hc
      rcases List.mem_cons.1 h with e | e
      · exact absurd e.symm hc
      · show (Option.map _ (cutC l)).isSome = true
        rw [Option.isSome_map]
        exact ih e
/-- What Cut answers. -/
def XCutAt (p r : ByteArray) (b : Bool) (w : World) (e : Ending) (w' : World) : Prop := e = .returned (.tuple #[.string p, .string r, .bool b]) ∧ Below w.heap.size w w'
theorem xib_58 (s : ByteArray) (q : Int) (w : World) (h : Lib.indexByte s.data.toList 58 = q) :
    Calls Try.prog 78 #[.string s, .int .u8 ↑((⟨#[58]⟩ : ByteArray)[0]'(by decide)).toNat] w fun e w' => e = .returned (.int .i64 q) ∧ w = w' := by
  refine (Try.stringslite_IndexByte s _ w).mono fun e w' ⟨h1, h2⟩ => ⟨?_, h2.symm⟩
  rw [h1, ← h]
  rfl
set_option maxRecDepth 100000 in
theorem xindex_58 (s : ByteArray) (q : Int) (w : World) (h : Lib.indexByte s.data.toList 58 = q) :
    Calls Try.prog 75 #[.string s, .string ⟨#[58]⟩] w fun e w' => e = .returned (.int .i64 q) ∧ w = w' := by
  have H := Lib.hid h
  cases hq : ([58] == s.toList) with
  | true =>
    obtain rfl : (0 : Int) = q := by
      have e : s.data.toList = [58] := by
        rw [beq_iff_eq, ByteArray.toList_eq] at hq
        exact hq.symm
      rw [← h, e]
      rfl
    clear h
    go_enter Try.func75, Try.ntmps75
    go_wp2_with fail
    go_ret
    exact ⟨rfl, rfl⟩
  | false =>
    clear h
    go_enter Try.func75, Try.ntmps75
    go_wp2_with (first
      | (go_at_call 78; (with_reducible refine (xib_58 s q w H.out).mono ?_); rintro e w1 ⟨rfl, rfl⟩)
      | fail)
    go_ret
    exact ⟨rfl, rfl⟩
set_option maxRecDepth 100000 in
theorem xslcut_no_58 (s : ByteArray) (w : World) (h : Lib.indexByte s.data.toList 58 = -1) :
    Calls Try.prog 68 #[.string s, .string ⟨#[58]⟩] w (XCutAt s ⟨#[]⟩ false w) := by
  have H := Lib.hid h
  clear h
  go_enter Try.func68, Try.ntmps68
  go_wp2_with (first
    | (go_at_call 75; (with_reducible refine (xindex_58 s (-1) w H.out).mono ?_); rintro e w1 ⟨rfl, rfl⟩)
    | fail)
  go_ret3
  exact ⟨rfl, Below.refl _ _⟩
set_option maxRecDepth 100000 in
theorem xslcut_yes_58 (s p r : ByteArray) (i j n : Nat) (w : World) (hm : s.size ≤ 1000000) (h : Lib.indexByte s.data.toList 58 = (i : Int)) (hi : i < s.size) (hj : i + 1 = j) (hn : s.size = n) (hp : s.extract 0 i = p) (hr : s.extract j n = r) :
    Calls Try.prog 68 #[.string s, .string ⟨#[58]⟩] w (XCutAt p r true w) := by
  have H := Lib.hid h
  have b1 : (0 : Int) ≤ (i : Int) ∧ (i : Int) ≤ (s.size : Int) := by omega
  have b2 : (0 : Int) ≤ (j : Int) ∧ (j : Int) ≤ (s.size : Int) := by omega
  have s1 : IntKind.i64.wrap ((i : Int) + 1) = (j : Int) := by rw [IntWalk.i64_in _ (by omega)]; omega
  have d1 : decide ((0 : Int) ≤ (i : Int)) = true := by simp
  rw [← hn] at hr
  clear h hm hi hj hn
  go_enter Try.func68, Try.ntmps68
  go_wp2_with (first
    | (go_at_call 75; (with_reducible refine (xindex_58 s (i : Int) w H.out).mono ?_); rintro e w1 ⟨rfl, rfl⟩)
    | fail)
  go_region
  go_wp2_with fail
  go_ret3
  exact ⟨rfl, (show Below w.heap.size w w.drew from ⟨rfl, rfl, rfl, Nat.le_refl _, fun _ _ => rfl⟩)⟩
set_option maxRecDepth 100000 in
theorem xcut_no_58 (s : ByteArray) (w : World) (h : Lib.indexByte s.data.toList 58 = -1) :
    Calls Try.prog 62 #[.string s, .string ⟨#[58]⟩] w (XCutAt s ⟨#[]⟩ false w) := by
  have H := Lib.hid h
  clear h
  go_enter Try.func62, Try.ntmps62
  go_wp2_with (first
    | (go_at_call 68; (with_reducible refine (xslcut_no_58 s w H.out).mono ?_); rintro e w1 ⟨rfl, hb1⟩)
    | fail)
  go_ret3
  exact ⟨rfl, hb1⟩
set_option maxRecDepth 100000 in
theorem xcut_yes_58 (s p r : ByteArray) (i j n : Nat) (w : World) (hm : s.size ≤ 1000000) (h : Lib.indexByte s.data.toList 58 = (i : Int)) (hi : i < s.size) (hj : i + 1 = j) (hn : s.size = n) (hp : s.extract 0 i = p) (hr : s.extract j n = r) :
    Calls Try.prog 62 #[.string s, .string ⟨#[58]⟩] w (XCutAt p r true w) := by
  have H : Hid (Calls Try.prog 68 #[.string s, .string ⟨#[58]⟩] w (XCutAt p r true w)) := xslcut_yes_58 s p r i j n w hm h hi hj hn hp hr
  clear hm h hi hj hn hp hr
  go_enter Try.func62, Try.ntmps62
  go_wp2_with (first
    | (go_at_call 68; (with_reducible refine (H.out).mono ?_); rintro e w1 ⟨rfl, hb1⟩)
    | fail)
  go_ret3
  exact ⟨rfl, hb1⟩
/-- .. over lists. -/
theorem xcut_58_none (s : ByteArray) (w : World) (h : (58 : UInt8) ∉ s.data.toList) :
    Calls Try.prog 62 #[.string s, .string ⟨#[58]⟩] w (XCutAt s ⟨#[]⟩ false w) := by
  rcases xix_cases s.data.toList 58 with ⟨h1, _⟩ | ⟨i, _, hi, e, _⟩
  · exact xcut_no_58 s w h1
  · exfalso; apply h; rw [e]; simp
theorem xcut_58_some (s p r : ByteArray) (w : World) (hm : s.size ≤ 1000000) (h : s.data.toList = p.data.toList ++ 58 :: r.data.toList) (hp : (58 : UInt8) ∉ p.data.toList) :
    Calls Try.prog 62 #[.string s, .string ⟨#[58]⟩] w (XCutAt p r true w) := by
  rcases xix_cases s.data.toList 58 with ⟨_, h1⟩ | ⟨i, h1, hi, e, hn⟩
  · exfalso; apply h1; rw [h]; simp
  · have hsz := ba_l s
    obtain ⟨e1, e2⟩ := cut_uniq (e.symm.trans h) hn hp
    refine xcut_yes_58 s p r i (i + 1) s.size w hm h1 (by rw [← hsz]; exact hi) rfl rfl ?_ ?_
    · apply ba_x
      rw [extract_l s 0 i (by rw [← hsz]; omega), List.drop_zero, Nat.sub_zero, e1]
    · apply ba_x
      rw [extract_l s (i + 1) s.size (Nat.le_refl _), List.take_of_length_le (by rw [List.length_drop, hsz]; omega), e2]
theorem xib_60 (s : ByteArray) (q : Int) (w : World) (h : Lib.indexByte s.data.toList 60 = q) :
    Calls Try.prog 78 #[.string s, .int .u8 ↑((⟨#[60]⟩ : ByteArray)[0]'(by decide)).toNat] w fun e w' => e = .returned (.int .i64 q) ∧ w = w' := by
  refine (Try.stringslite_IndexByte s _ w).mono fun e w' ⟨h1, h2⟩ => ⟨?_, h2.symm⟩
  rw [h1, ← h]
  rfl
set_option maxRecDepth 100000 in
theorem xindex_60 (s : ByteArray) (q : Int) (w : World) (h : Lib.indexByte s.data.toList 60 = q) :
    Calls Try.prog 75 #[.string s, .string ⟨#[60]⟩] w fun e w' => e = .returned (.int .i64 q) ∧ w = w' := by
  have H := Lib.hid h
  cases hq : ([60] == s.toList) with
  | true =>
    obtain rfl : (0 : Int) = q := by
      have e : s.data.toList = [60] := by
        rw [beq_iff_eq, ByteArray.toList_eq] at hq
        exact hq.symm
      rw [← h, e]
      rfl
    clear h
    go_enter Try.func75, Try.ntmps75
    go_wp2_with fail
    go_ret
    exact ⟨rfl, rfl⟩
  | false =>
    clear h
    go_enter Try.func75, Try.ntmps75
    go_wp2_with (first
      | (go_at_call 78; (with_reducible refine (xib_60 s q w H.out).mono ?_); rintro e w1 ⟨rfl, rfl⟩)
      | fail)
    go_ret
    exact ⟨rfl, rfl⟩
set_option maxRecDepth 100000 in
theorem xslcut_no_60 (s : ByteArray) (w : World) (h : Lib.indexByte s.data.toList 60 = -1) :
    Calls Try.prog 68 #[.string s, .string ⟨#[60]⟩] w (XCutAt s ⟨#[]⟩ false w) := by
  have H := Lib.hid h
  clear h
  go_enter Try.func68, Try.ntmps68
  go_wp2_with (first
    | (go_at_call 75; (with_reducible refine (xindex_60 s (-1) w H.out).mono ?_); rintro e w1 ⟨rfl, rfl⟩)
    | fail)
  go_ret3
  exact ⟨rfl, Below.refl _ _⟩
set_option maxRecDepth 100000 in
theorem xslcut_yes_60 (s p r : ByteArray) (i j n : Nat) (w : World) (hm : s.size ≤ 1000000) (h : Lib.indexByte s.data.toList 60 = (i : Int)) (hi : i < s.size) (hj : i + 1 = j) (hn : s.size = n) (hp : s.extract 0 i = p) (hr : s.extract j n = r) :
    Calls Try.prog 68 #[.string s, .string ⟨#[60]⟩] w (XCutAt p r true w) := by
  have H := Lib.hid h
  have b1 : (0 : Int) ≤ (i : Int) ∧ (i : Int) ≤ (s.size : Int) := by omega
  have b2 : (0 : Int) ≤ (j : Int) ∧ (j : Int) ≤ (s.size : Int) := by omega
  have s1 : IntKind.i64.wrap ((i : Int) + 1) = (j : Int) := by rw [IntWalk.i64_in _ (by omega)]; omega
  have d1 : decide ((0 : Int) ≤ (i : Int)) = true := by simp
  rw [← hn] at hr
  clear h hm hi hj hn
  go_enter Try.func68, Try.ntmps68
  go_wp2_with (first
    | (go_at_call 75; (with_reducible refine (xindex_60 s (i : Int) w H.out).mono ?_); rintro e w1 ⟨rfl, rfl⟩)
    | fail)
  go_region
  go_wp2_with fail
  go_ret3
  exact ⟨rfl, (show Below w.heap.size w w.drew from ⟨rfl, rfl, rfl, Nat.le_refl _, fun _ _ => rfl⟩)⟩
set_option maxRecDepth 100000 in
theorem xcut_no_60 (s : ByteArray) (w : World) (h : Lib.indexByte s.data.toList 60 = -1) :
    Calls Try.prog 62 #[.string s, .string ⟨#[60]⟩] w (XCutAt s ⟨#[]⟩ false w) := by
  have H := Lib.hid h
  clear h
  go_enter Try.func62, Try.ntmps62
  go_wp2_with (first
    | (go_at_call 68; (with_reducible refine (xslcut_no_60 s w H.out).mono ?_); rintro e w1 ⟨rfl, hb1⟩)
    | fail)
  go_ret3
  exact ⟨rfl, hb1⟩
set_option maxRecDepth 100000 in
theorem xcut_yes_60 (s p r : ByteArray) (i j n : Nat) (w : World) (hm : s.size ≤ 1000000) (h : Lib.indexByte s.data.toList 60 = (i : Int)) (hi : i < s.size) (hj : i + 1 = j) (hn : s.size = n) (hp : s.extract 0 i = p) (hr : s.extract j n = r) :
    Calls Try.prog 62 #[.string s, .string ⟨#[60]⟩] w (XCutAt p r true w) := by
  have H : Hid (Calls Try.prog 68 #[.string s, .string ⟨#[60]⟩] w (XCutAt p r true w)) := xslcut_yes_60 s p r i j n w hm h hi hj hn hp hr
  clear hm h hi hj hn hp hr
  go_enter Try.func62, Try.ntmps62
  go_wp2_with (first
    | (go_at_call 68; (with_reducible refine (H.out).mono ?_); rintro e w1 ⟨rfl, hb1⟩)
    | fail)
  go_ret3
  exact ⟨rfl, hb1⟩
/-- .. over lists. -/
theorem xcut_60_none (s : ByteArray) (w : World) (h : (60 : UInt8) ∉ s.data.toList) :
    Calls Try.prog 62 #[.string s, .string ⟨#[60]⟩] w (XCutAt s ⟨#[]⟩ false w) := by
  rcases xix_cases s.data.toList 60 with ⟨h1, _⟩ | ⟨i, _, hi, e, _⟩
  · exact xcut_no_60 s w h1
  · exfalso; apply h; rw [e]; simp
theorem xcut_60_some (s p r : ByteArray) (w : World) (hm : s.size ≤ 1000000) (h : s.data.toList = p.data.toList ++ 60 :: r.data.toList) (hp : (60 : UInt8) ∉ p.data.toList) :
    Calls Try.prog 62 #[.string s, .string ⟨#[60]⟩] w (XCutAt p r true w) := by
  rcases xix_cases s.data.toList 60 with ⟨_, h1⟩ | ⟨i, h1, hi, e, hn⟩
  · exfalso; apply h1; rw [h]; simp
  · have hsz := ba_l s
    obtain ⟨e1, e2⟩ := cut_uniq (e.symm.trans h) hn hp
    refine xcut_yes_60 s p r i (i + 1) s.size w hm h1 (by rw [← hsz]; exact hi) rfl rfl ?_ ?_
    · apply ba_x
      rw [extract_l s 0 i (by rw [← hsz]; omega), List.drop_zero, Nat.sub_zero, e1]
    · apply ba_x
      rw [extract_l s (i + 1) s.size (Nat.le_refl _), List.take_of_length_le (by rw [List.length_drop, hsz]; omega), e2]
theorem xib_34 (s : ByteArray) (q : Int) (w : World) (h : Lib.indexByte s.data.toList 34 = q) :
    Calls Try.prog 78 #[.string s, .int .u8 ↑((⟨#[34]⟩ : ByteArray)[0]'(by decide)).toNat] w fun e w' => e = .returned (.int .i64 q) ∧ w = w' := by
  refine (Try.stringslite_IndexByte s _ w).mono fun e w' ⟨h1, h2⟩ => ⟨?_, h2.symm⟩
  rw [h1, ← h]
  rfl
set_option maxRecDepth 100000 in
theorem xindex_34 (s : ByteArray) (q : Int) (w : World) (h : Lib.indexByte s.data.toList 34 = q) :
    Calls Try.prog 75 #[.string s, .string ⟨#[34]⟩] w fun e w' => e = .returned (.int .i64 q) ∧ w = w' := by
  have H := Lib.hid h
  cases hq : ([34] == s.toList) with
  | true =>
    obtain rfl : (0 : Int) = q := by
      have e : s.data.toList = [34] := by
        rw [beq_iff_eq, ByteArray.toList_eq] at hq
        exact hq.symm
      rw [← h, e]
      rfl
    clear h
    go_enter Try.func75, Try.ntmps75
    go_wp2_with fail
    go_ret
    exact ⟨rfl, rfl⟩
  | false =>
    clear h
    go_enter Try.func75, Try.ntmps75
    go_wp2_with (first
      | (go_at_call 78; (with_reducible refine (xib_34 s q w H.out).mono ?_); rintro e w1 ⟨rfl, rfl⟩)
      | fail)
    go_ret
    exact ⟨rfl, rfl⟩
set_option maxRecDepth 100000 in
theorem xslcut_no_34 (s : ByteArray) (w : World) (h : Lib.indexByte s.data.toList 34 = -1) :
    Calls Try.prog 68 #[.string s, .string ⟨#[34]⟩] w (XCutAt s ⟨#[]⟩ false w) := by
  have H := Lib.hid h
  clear h
  go_enter Try.func68, Try.ntmps68
  go_wp2_with (first
    | (go_at_call 75; (with_reducible refine (xindex_34 s (-1) w H.out).mono ?_); rintro e w1 ⟨rfl, rfl⟩)
    | fail)
  go_ret3
  exact ⟨rfl, Below.refl _ _⟩
set_option maxRecDepth 100000 in
theorem xslcut_yes_34 (s p r : ByteArray) (i j n : Nat) (w : World) (hm : s.size ≤ 1000000) (h : Lib.indexByte s.data.toList 34 = (i : Int)) (hi : i < s.size) (hj : i + 1 = j) (hn : s.size = n) (hp : s.extract 0 i = p) (hr : s.extract j n = r) :
    Calls Try.prog 68 #[.string s, .string ⟨#[34]⟩] w (XCutAt p r true w) := by
  have H := Lib.hid h
  have b1 : (0 : Int) ≤ (i : Int) ∧ (i : Int) ≤ (s.size : Int) := by omega
  have b2 : (0 : Int) ≤ (j : Int) ∧ (j : Int) ≤ (s.size : Int) := by omega
  have s1 : IntKind.i64.wrap ((i : Int) + 1) = (j : Int) := by rw [IntWalk.i64_in _ (by omega)]; omega
  have d1 : decide ((0 : Int) ≤ (i : Int)) = true := by simp
  rw [← hn] at hr
  clear h hm hi hj hn
  go_enter Try.func68, Try.ntmps68
  go_wp2_with (first
    | (go_at_call 75; (with_reducible refine (xindex_34 s (i : Int) w H.out).mono ?_); rintro e w1 ⟨rfl, rfl⟩)
    | fail)
  go_region
  go_wp2_with fail
  go_ret3
  exact ⟨rfl, (show Below w.heap.size w w.drew from ⟨rfl, rfl, rfl, Nat.le_refl _, fun _ _ => rfl⟩)⟩
set_option maxRecDepth 100000 in
theorem xcut_no_34 (s : ByteArray) (w : World) (h : Lib.indexByte s.data.toList 34 = -1) :
    Calls Try.prog 62 #[.string s, .string ⟨#[34]⟩] w (XCutAt s ⟨#[]⟩ false w) := by
  have H := Lib.hid h
  clear h
  go_enter Try.func62, Try.ntmps62
  go_wp2_with (first
    | (go_at_call 68; (with_reducible refine (xslcut_no_34 s w H.out).mono ?_); rintro e w1 ⟨rfl, hb1⟩)
    | fail)
  go_ret3
  exact ⟨rfl, hb1⟩
set_option maxRecDepth 100000 in
theorem xcut_yes_34 (s p r : ByteArray) (i j n : Nat) (w : World) (hm : s.size ≤ 1000000) (h : Lib.indexByte s.data.toList 34 = (i : Int)) (hi : i < s.size) (hj : i + 1 = j) (hn : s.size = n) (hp : s.extract 0 i = p) (hr : s.extract j n = r) :
    Calls Try.prog 62 #[.string s, .string ⟨#[34]⟩] w (XCutAt p r true w) := by
  have H : Hid (Calls Try.prog 68 #[.string s, .string ⟨#[34]⟩] w (XCutAt p r true w)) := xslcut_yes_34 s p r i j n w hm h hi hj hn hp hr
  clear hm h hi hj hn hp hr
  go_enter Try.func62, Try.ntmps62
  go_wp2_with (first
    | (go_at_call 68; (with_reducible refine (H.out).mono ?_); rintro e w1 ⟨rfl, hb1⟩)
    | fail)
  go_ret3
  exact ⟨rfl, hb1⟩
/-- .. over lists. -/
theorem xcut_34_none (s : ByteArray) (w : World) (h : (34 : UInt8) ∉ s.data.toList) :
    Calls Try.prog 62 #[.string s, .string ⟨#[34]⟩] w (XCutAt s ⟨#[]⟩ false w) := by
  rcases xix_cases s.data.toList 34 with ⟨h1, _⟩ | ⟨i, _, hi, e, _⟩
  · exact xcut_no_34 s w h1
  · exfalso; apply h; rw [e]; simp
theorem xcut_34_some (s p r : ByteArray) (w : World) (hm : s.size ≤ 1000000) (h : s.data.toList = p.data.toList ++ 34 :: r.data.toList) (hp : (34 : UInt8) ∉ p.data.toList) :
    Calls Try.prog 62 #[.string s, .string ⟨#[34]⟩] w (XCutAt p r true w) := by
  rcases xix_cases s.data.toList 34 with ⟨_, h1⟩ | ⟨i, h1, hi, e, hn⟩
  · exfalso; apply h1; rw [h]; simp
  · have hsz := ba_l s
    obtain ⟨e1, e2⟩ := cut_uniq (e.symm.trans h) hn hp
    refine xcut_yes_34 s p r i (i + 1) s.size w hm h1 (by rw [← hsz]; exact hi) rfl rfl ?_ ?_
    · apply ba_x
      rw [extract_l s 0 i (by rw [← hsz]; omega), List.drop_zero, Nat.sub_zero, e1]
    · apply ba_x
      rw [extract_l s (i + 1) s.size (Nat.le_refl _), List.take_of_length_le (by rw [List.length_drop, hsz]; omega), e2]
theorem xib_39 (s : ByteArray) (q : Int) (w : World) (h : Lib.indexByte s.data.toList 39 = q) :
    Calls Try.prog 78 #[.string s, .int .u8 ↑((⟨#[39]⟩ : ByteArray)[0]'(by decide)).toNat] w fun e w' => e = .returned (.int .i64 q) ∧ w = w' := by
  refine (Try.stringslite_IndexByte s _ w).mono fun e w' ⟨h1, h2⟩ => ⟨?_, h2.symm⟩
  rw [h1, ← h]
  rfl
set_option maxRecDepth 100000 in
theorem xindex_39 (s : ByteArray) (q : Int) (w : World) (h : Lib.indexByte s.data.toList 39 = q) :
    Calls Try.prog 75 #[.string s, .string ⟨#[39]⟩] w fun e w' => e = .returned (.int .i64 q) ∧ w = w' := by
  have H := Lib.hid h
  cases hq : ([39] == s.toList) with
  | true =>
    obtain rfl : (0 : Int) = q := by
      have e : s.data.toList = [39] := by
        rw [beq_iff_eq, ByteArray.toList_eq] at hq
        exact hq.symm
      rw [← h, e]
      rfl
    clear h
    go_enter Try.func75, Try.ntmps75
    go_wp2_with fail
    go_ret
    exact ⟨rfl, rfl⟩
  | false =>
    clear h
    go_enter Try.func75, Try.ntmps75
    go_wp2_with (first
      | (go_at_call 78; (with_reducible refine (xib_39 s q w H.out).mono ?_); rintro e w1 ⟨rfl, rfl⟩)
      | fail)
    go_ret
    exact ⟨rfl, rfl⟩
set_option maxRecDepth 100000 in
theorem xslcut_no_39 (s : ByteArray) (w : World) (h : Lib.indexByte s.data.toList 39 = -1) :
    Calls Try.prog 68 #[.string s, .string ⟨#[39]⟩] w (XCutAt s ⟨#[]⟩ false w) := by
  have H := Lib.hid h
  clear h
  go_enter Try.func68, Try.ntmps68
  go_wp2_with (first
    | (go_at_call 75; (with_reducible refine (xindex_39 s (-1) w H.out).mono ?_); rintro e w1 ⟨rfl, rfl⟩)
    | fail)
  go_ret3
  exact ⟨rfl, Below.refl _ _⟩
set_option maxRecDepth 100000 in
theorem xslcut_yes_39 (s p r : ByteArray) (i j n : Nat) (w : World) (hm : s.size ≤ 1000000) (h : Lib.indexByte s.data.toList 39 = (i : Int)) (hi : i < s.size) (hj : i + 1 = j) (hn : s.size = n) (hp : s.extract 0 i = p) (hr : s.extract j n = r) :
    Calls Try.prog 68 #[.string s, .string ⟨#[39]⟩] w (XCutAt p r true w) := by
  have H := Lib.hid h
  have b1 : (0 : Int) ≤ (i : Int) ∧ (i : Int) ≤ (s.size : Int) := by omega
  have b2 : (0 : Int) ≤ (j : Int) ∧ (j : Int) ≤ (s.size : Int) := by omega
  have s1 : IntKind.i64.wrap ((i : Int) + 1) = (j : Int) := by rw [IntWalk.i64_in _ (by omega)]; omega
  have d1 : decide ((0 : Int) ≤ (i : Int)) = true := by simp
  rw [← hn] at hr
  clear h hm hi hj hn
  go_enter Try.func68, Try.ntmps68
  go_wp2_with (first
    | (go_at_call 75; (with_reducible refine (xindex_39 s (i : Int) w H.out).mono ?_); rintro e w1 ⟨rfl, rfl⟩)
    | fail)
  go_region
  go_wp2_with fail
  go_ret3
  exact ⟨rfl, (show Below w.heap.size w w.drew from ⟨rfl, rfl, rfl, Nat.le_refl _, fun _ _ => rfl⟩)⟩
set_option maxRecDepth 100000 in
theorem xcut_no_39 (s : ByteArray) (w : World) (h : Lib.indexByte s.data.toList 39 = -1) :
    Calls Try.prog 62 #[.string s, .string ⟨#[39]⟩] w (XCutAt s ⟨#[]⟩ false w) := by
  have H := Lib.hid h
  clear h
  go_enter Try.func62, Try.ntmps62
  go_wp2_with (first
    | (go_at_call 68; (with_reducible refine (xslcut_no_39 s w H.out).mono ?_); rintro e w1 ⟨rfl, hb1⟩)
    | fail)
  go_ret3
  exact ⟨rfl, hb1⟩
set_option maxRecDepth 100000 in
theorem xcut_yes_39 (s p r : ByteArray) (i j n : Nat) (w : World) (hm : s.size ≤ 1000000) (h : Lib.indexByte s.data.toList 39 = (i : Int)) (hi : i < s.size) (hj : i + 1 = j) (hn : s.size = n) (hp : s.extract 0 i = p) (hr : s.extract j n = r) :
    Calls Try.prog 62 #[.string s, .string ⟨#[39]⟩] w (XCutAt p r true w) := by
  have H : Hid (Calls Try.prog 68 #[.string s, .string ⟨#[39]⟩] w (XCutAt p r true w)) := xslcut_yes_39 s p r i j n w hm h hi hj hn hp hr
  clear hm h hi hj hn hp hr
  go_enter Try.func62, Try.ntmps62
  go_wp2_with (first
    | (go_at_call 68; (with_reducible refine (H.out).mono ?_); rintro e w1 ⟨rfl, hb1⟩)
    | fail)
  go_ret3
  exact ⟨rfl, hb1⟩
/-- .. over lists. -/
theorem xcut_39_none (s : ByteArray) (w : World) (h : (39 : UInt8) ∉ s.data.toList) :
    Calls Try.prog 62 #[.string s, .string ⟨#[39]⟩] w (XCutAt s ⟨#[]⟩ false w) := by
  rcases xix_cases s.data.toList 39 with ⟨h1, _⟩ | ⟨i, _, hi, e, _⟩
  · exact xcut_no_39 s w h1
  · exfalso; apply h; rw [e]; simp
theorem xcut_39_some (s p r : ByteArray) (w : World) (hm : s.size ≤ 1000000) (h : s.data.toList = p.data.toList ++ 39 :: r.data.toList) (hp : (39 : UInt8) ∉ p.data.toList) :
    Calls Try.prog 62 #[.string s, .string ⟨#[39]⟩] w (XCutAt p r true w) := by
  rcases xix_cases s.data.toList 39 with ⟨_, h1⟩ | ⟨i, h1, hi, e, hn⟩
  · exfalso; apply h1; rw [h]; simp
  · have hsz := ba_l s
    obtain ⟨e1, e2⟩ := cut_uniq (e.symm.trans h) hn hp
    refine xcut_yes_39 s p r i (i + 1) s.size w hm h1 (by rw [← hsz]; exact hi) rfl rfl ?_ ?_
    · apply ba_x
      rw [extract_l s 0 i (by rw [← hsz]; omega), List.drop_zero, Nat.sub_zero, e1]
    · apply ba_x
      rw [extract_l s (i + 1) s.size (Nat.le_refl _), List.take_of_length_le (by rw [List.length_drop, hsz]; omega), e2]
set_option maxHeartbeats 1000000 in
set_option maxRecDepth 100000 in
theorem begins9 (c : UInt8) (w : World) (b : Bool) (h : ltr c = b) :
    Calls Try.prog 69 #[.int .u8 c.toNat] w fun e w' => e = .returned (.bool b) ∧ w = w' := by
  have hlim := c.toNat_lt
  rcases (show (0 ≤ c.toNat ∧ c.toNat ≤ 64) ∨ (65 ≤ c.toNat ∧ c.toNat ≤ 90) ∨ (91 ≤ c.toNat ∧ c.toNat ≤ 94) ∨ (95 ≤ c.toNat ∧ c.toNat ≤ 95) ∨ (96 ≤ c.toNat ∧ c.toNat ≤ 96) ∨ (97 ≤ c.toNat ∧ c.toNat ≤ 122) ∨ (123 ≤ c.toNat ∧ c.toNat ≤ 255) by omega) with ⟨q1, q2⟩ | ⟨q1, q2⟩ | ⟨q1, q2⟩ | ⟨q1, q2⟩ | ⟨q1, q2⟩ | ⟨q1, q2⟩ | ⟨q1, q2⟩
  · obtain rfl : false = b := by
      rw [← h]
      unfold ltr
      have e95 : (c == 95) = false := by rw [Bool.eq_iff_iff]; simp [← UInt8.toNat_inj]; omega
      rw [e95]
      simp <;> omega
    clear h
    have feq95 : ((c.toNat : Int) == 95) = false := by simp; omega
    have fge97 : decide ((97 : Int) ≤ (c.toNat : Int)) = false := decide_eq_false (by omega)
    have fle122 : decide ((c.toNat : Int) ≤ 122) = true := decide_eq_true (by omega)
    have fge65 : decide ((65 : Int) ≤ (c.toNat : Int)) = false := decide_eq_false (by omega)
    have fle90 : decide ((c.toNat : Int) ≤ 90) = true := decide_eq_true (by omega)
    go_enter Try.func69, Try.ntmps69
    go_wp2_with fail
    go_ret
    exact ⟨rfl, rfl⟩
  · obtain rfl : true = b := by
      rw [← h]
      unfold ltr
      have e95 : (c == 95) = false := by rw [Bool.eq_iff_iff]; simp [← UInt8.toNat_inj]; omega
      rw [e95]
      simp <;> omega
    clear h
    have feq95 : ((c.toNat : Int) == 95) = false := by simp; omega
    have fge97 : decide ((97 : Int) ≤ (c.toNat : Int)) = false := decide_eq_false (by omega)
    have fle122 : decide ((c.toNat : Int) ≤ 122) = true := decide_eq_true (by omega)
    have fge65 : decide ((65 : Int) ≤ (c.toNat : Int)) = true := decide_eq_true (by omega)
    have fle90 : decide ((c.toNat : Int) ≤ 90) = true := decide_eq_true (by omega)
    go_enter Try.func69, Try.ntmps69
    go_wp2_with fail
    go_ret
    exact ⟨rfl, rfl⟩
  · obtain rfl : false = b := by
      rw [← h]
      unfold ltr
      have e95 : (c == 95) = false := by rw [Bool.eq_iff_iff]; simp [← UInt8.toNat_inj]; omega
      rw [e95]
      simp <;> omega
    clear h
    have feq95 : ((c.toNat : Int) == 95) = false := by simp; omega
    have fge97 : decide ((97 : Int) ≤ (c.toNat : Int)) = false := decide_eq_false (by omega)
    have fle122 : decide ((c.toNat : Int) ≤ 122) = true := decide_eq_true (by omega)
    have fge65 : decide ((65 : Int) ≤ (c.toNat : Int)) = true := decide_eq_true (by omega)
    have fle90 : decide ((c.toNat : Int) ≤ 90) = false := decide_eq_false (by omega)
    go_enter Try.func69, Try.ntmps69
    go_wp2_with fail
    go_ret
    exact ⟨rfl, rfl⟩
  · obtain rfl : true = b := by
      rw [← h]
      unfold ltr
      have e95 : (c == 95) = true := by rw [Bool.eq_iff_iff]; simp [← UInt8.toNat_inj]; omega
      rw [e95]
      simp <;> omega
    clear h
    have feq95 : ((c.toNat : Int) == 95) = true := by simp; omega
    have fge97 : decide ((97 : Int) ≤ (c.toNat : Int)) = false := decide_eq_false (by omega)
    have fle122 : decide ((c.toNat : Int) ≤ 122) = true := decide_eq_true (by omega)
    have fge65 : decide ((65 : Int) ≤ (c.toNat : Int)) = true := decide_eq_true (by omega)
    have fle90 : decide ((c.toNat : Int) ≤ 90) = false := decide_eq_false (by omega)
    go_enter Try.func69, Try.ntmps69
    go_wp2_with fail
    go_ret
    exact ⟨rfl, rfl⟩
  · obtain rfl : false = b := by
      rw [← h]
      unfold ltr
      have e95 : (c == 95) = false := by rw [Bool.eq_iff_iff]; simp [← UInt8.toNat_inj]; omega
      rw [e95]
      simp <;> omega
    clear h
    have feq95 : ((c.toNat : Int) == 95) = false := by simp; omega
    have fge97 : decide ((97 : Int) ≤ (c.toNat : Int)) = false := decide_eq_false (by omega)
    have fle122 : decide ((c.toNat : Int) ≤ 122) = true := decide_eq_true (by omega)
    have fge65 : decide ((65 : Int) ≤ (c.toNat : Int)) = true := decide_eq_true (by omega)
    have fle90 : decide ((c.toNat : Int) ≤ 90) = false := decide_eq_false (by omega)
    go_enter Try.func69, Try.ntmps69
    go_wp2_with fail
    go_ret
    exact ⟨rfl, rfl⟩
  · obtain rfl : true = b := by
      rw [← h]
      unfold ltr
      have e95 : (c == 95) = false := by rw [Bool.eq_iff_iff]; simp [← UInt8.toNat_inj]; omega
      rw [e95]
      simp <;> omega
    clear h
    have feq95 : ((c.toNat : Int) == 95) = false := by simp; omega
    have fge97 : decide ((97 : Int) ≤ (c.toNat : Int)) = true := decide_eq_true (by omega)
    have fle122 : decide ((c.toNat : Int) ≤ 122) = true := decide_eq_true (by omega)
    have fge65 : decide ((65 : Int) ≤ (c.toNat : Int)) = true := decide_eq_true (by omega)
    have fle90 : decide ((c.toNat : Int) ≤ 90) = false := decide_eq_false (by omega)
    go_enter Try.func69, Try.ntmps69
    go_wp2_with fail
    go_ret
    exact ⟨rfl, rfl⟩
  · obtain rfl : false = b := by
      rw [← h]
      unfold ltr
      have e95 : (c == 95) = false := by rw [Bool.eq_iff_iff]; simp [← UInt8.toNat_inj]; omega
      rw [e95]
      simp <;> omega
    clear h
    have feq95 : ((c.toNat : Int) == 95) = false := by simp; omega
    have fge97 : decide ((97 : Int) ≤ (c.toNat : Int)) = true := decide_eq_true (by omega)
    have fle122 : decide ((c.toNat : Int) ≤ 122) = false := decide_eq_false (by omega)
    have fge65 : decide ((65 : Int) ≤ (c.toNat : Int)) = true := decide_eq_true (by omega)
    have fle90 : decide ((c.toNat : Int) ≤ 90) = false := decide_eq_false (by omega)
    go_enter Try.func69, Try.ntmps69
    go_wp2_with fail
    go_ret
    exact ⟨rfl, rfl⟩
theorem nch_not9 {c : UInt8} (h : ltr c = false) : nch c = (decide (48 ≤ c.toNat) && decide (c.toNat ≤ 57) || c == 46 || c == 45) := by unfold nch; rw [h]; simp
set_option maxHeartbeats 2000000 in
set_option maxRecDepth 100000 in
theorem goesOn9 (c : UInt8) (w : World) (b : Bool) (h : nch c = b) :
    Calls Try.prog 70 #[.int .u8 c.toNat] w fun e w' => e = .returned (.bool b) ∧ w = w' := by
  cases hl : ltr c with
  | true =>
    have HL := Lib.hid hl
    obtain rfl : true = b := by rw [← h, nch_of_ltr hl]
    clear h hl
    go_enter Try.func70, Try.ntmps70
    go_wp2_with (first
      | (go_at_call 69; (with_reducible refine (begins9 c _ true HL.out).mono ?_); rintro e1 w1 ⟨rfl, rfl⟩)
      | fail)
    go_ret
    exact ⟨rfl, rfl⟩
  | false =>
    have HL := Lib.hid hl
    rw [nch_not9 hl] at h
    clear hl
    have hlim := c.toNat_lt
    rcases (show (0 ≤ c.toNat ∧ c.toNat ≤ 44) ∨ (45 ≤ c.toNat ∧ c.toNat ≤ 45) ∨ (46 ≤ c.toNat ∧ c.toNat ≤ 46) ∨ (47 ≤ c.toNat ∧ c.toNat ≤ 47) ∨ (48 ≤ c.toNat ∧ c.toNat ≤ 57) ∨ (58 ≤ c.toNat ∧ c.toNat ≤ 255) by omega) with ⟨q1, q2⟩ | ⟨q1, q2⟩ | ⟨q1, q2⟩ | ⟨q1, q2⟩ | ⟨q1, q2⟩ | ⟨q1, q2⟩
    · obtain rfl : false = b := by
        rw [← h]
        have e45 : (c == 45) = false := by rw [Bool.eq_iff_iff]; simp [← UInt8.toNat_inj]; omega
        have e46 : (c == 46) = false := by rw [Bool.eq_iff_iff]; simp [← UInt8.toNat_inj]; omega
        rw [e45, e46]
        simp <;> omega
      clear h
      have feq46 : ((c.toNat : Int) == 46) = false := by simp; omega
      have feq45 : ((c.toNat : Int) == 45) = false := by simp; omega
      have fge48 : decide ((48 : Int) ≤ (c.toNat : Int)) = false := decide_eq_false (by omega)
      have fle57 : decide ((c.toNat : Int) ≤ 57) = true := decide_eq_true (by omega)
      go_enter Try.func70, Try.ntmps70
      go_wp2_with (first
        | (go_at_call 69; (with_reducible refine (begins9 c _ false HL.out).mono ?_); rintro e1 w1 ⟨rfl, rfl⟩)
        | fail)
      go_ret
      exact ⟨rfl, rfl⟩
    · obtain rfl : true = b := by
        rw [← h]
        have e45 : (c == 45) = true := by rw [Bool.eq_iff_iff]; simp [← UInt8.toNat_inj]; omega
        have e46 : (c == 46) = false := by rw [Bool.eq_iff_iff]; simp [← UInt8.toNat_inj]; omega
        rw [e45, e46]
        simp <;> omega
      clear h
      have feq46 : ((c.toNat : Int) == 46) = false := by simp; omega
      have feq45 : ((c.toNat : Int) == 45) = true := by simp; omega
      have fge48 : decide ((48 : Int) ≤ (c.toNat : Int)) = false := decide_eq_false (by omega)
      have fle57 : decide ((c.toNat : Int) ≤ 57) = true := decide_eq_true (by omega)
      go_enter Try.func70, Try.ntmps70
      go_wp2_with (first
        | (go_at_call 69; (with_reducible refine (begins9 c _ false HL.out).mono ?_); rintro e1 w1 ⟨rfl, rfl⟩)
        | fail)
      go_ret
      exact ⟨rfl, rfl⟩
    · obtain rfl : true = b := by
        rw [← h]
        have e45 : (c == 45) = false := by rw [Bool.eq_iff_iff]; simp [← UInt8.toNat_inj]; omega
        have e46 : (c == 46) = true := by rw [Bool.eq_iff_iff]; simp [← UInt8.toNat_inj]; omega
        rw [e45, e46]
        simp <;> omega
      clear h
      have feq46 : ((c.toNat : Int) == 46) = true := by simp; omega
      have feq45 : ((c.toNat : Int) == 45) = false := by simp; omega
      have fge48 : decide ((48 : Int) ≤ (c.toNat : Int)) = false := decide_eq_false (by omega)
      have fle57 : decide ((c.toNat : Int) ≤ 57) = true := decide_eq_true (by omega)
      go_enter Try.func70, Try.ntmps70
      go_wp2_with (first
        | (go_at_call 69; (with_reducible refine (begins9 c _ false HL.out).mono ?_); rintro e1 w1 ⟨rfl, rfl⟩)
        | fail)
      go_ret
      exact ⟨rfl, rfl⟩
    · obtain rfl : false = b := by
        rw [← h]
        have e45 : (c == 45) = false := by rw [Bool.eq_iff_iff]; simp [← UInt8.toNat_inj]; omega
        have e46 : (c == 46) = false := by rw [Bool.eq_iff_iff]; simp [← UInt8.toNat_inj]; omega
        rw [e45, e46]
        simp <;> omega
      clear h
      have feq46 : ((c.toNat : Int) == 46) = false := by simp; omega
      have feq45 : ((c.toNat : Int) == 45) = false := by simp; omega
      have fge48 : decide ((48 : Int) ≤ (c.toNat : Int)) = false := decide_eq_false (by omega)
      have fle57 : decide ((c.toNat : Int) ≤ 57) = true := decide_eq_true (by omega)
      go_enter Try.func70, Try.ntmps70
      go_wp2_with (first
        | (go_at_call 69; (with_reducible refine (begins9 c _ false HL.out).mono ?_); rintro e1 w1 ⟨rfl, rfl⟩)
        | fail)
      go_ret
      exact ⟨rfl, rfl⟩
    · obtain rfl : true = b := by
        rw [← h]
        have e45 : (c == 45) = false := by rw [Bool.eq_iff_iff]; simp [← UInt8.toNat_inj]; omega
        have e46 : (c == 46) = false := by rw [Bool.eq_iff_iff]; simp [← UInt8.toNat_inj]; omega
        rw [e45, e46]
        simp <;> omega
      clear h
      have feq46 : ((c.toNat : Int) == 46) = false := by simp; omega
      have feq45 : ((c.toNat : Int) == 45) = false := by simp; omega
      have fge48 : decide ((48 : Int) ≤ (c.toNat : Int)) = true := decide_eq_true (by omega)
      have fle57 : decide ((c.toNat : Int) ≤ 57) = true := decide_eq_true (by omega)
      go_enter Try.func70, Try.ntmps70
      go_wp2_with (first
        | (go_at_call 69; (with_reducible refine (begins9 c _ false HL.out).mono ?_); rintro e1 w1 ⟨rfl, rfl⟩)
        | fail)
      go_ret
      exact ⟨rfl, rfl⟩
    · obtain rfl : false = b := by
        rw [← h]
        have e45 : (c == 45) = false := by rw [Bool.eq_iff_iff]; simp [← UInt8.toNat_inj]; omega
        have e46 : (c == 46) = false := by rw [Bool.eq_iff_iff]; simp [← UInt8.toNat_inj]; omega
        rw [e45, e46]
        simp <;> omega
      clear h
      have feq46 : ((c.toNat : Int) == 46) = false := by simp; omega
      have feq45 : ((c.toNat : Int) == 45) = false := by simp; omega
      have fge48 : decide ((48 : Int) ≤ (c.toNat : Int)) = true := decide_eq_true (by omega)
      have fle57 : decide ((c.toNat : Int) ≤ 57) = false := decide_eq_false (by omega)
      go_enter Try.func70, Try.ntmps70
      go_wp2_with (first
        | (go_at_call 69; (with_reducible refine (begins9 c _ false HL.out).mono ?_); rintro e1 w1 ⟨rfl, rfl⟩)
        | fail)
      go_ret
      exact ⟨rfl, rfl⟩
theorem nameL_first {l : List UInt8} (h : 0 < l.length) : nameL l = (ltr (l[0]'h) && l.all nch) := by
  cases l with
  | nil => simp at h
  | cons c r =>
    show (ltr c && r.all nch) = (ltr c && (nch c && r.all nch))
    cases hc : ltr c
    · rfl
    · rw [nch_of_ltr hc]; rfl
set_option maxHeartbeats 4000000 in
set_option maxRecDepth 100000 in
theorem name9q (s : ByteArray) (w : World) (hm : s.size ≤ 1000000) (b : Bool) (h : nameL s.data.toList = b) :
    Calls Try.prog 63 #[.string s] w fun e w' => e = .returned (.bool b) ∧ w = w' := by
  have HM := Lib.hid hm
  by_cases h0 : s.size = 0
  · obtain rfl : false = b := by rw [← h, List.eq_nil_of_length_eq_zero ((ba_l s).trans h0)]; rfl
    have hem : s.toList.isEmpty = true := by rw [empty_l]; simp [h0]
    clear h hm h0
    go_enter Try.func63, Try.ntmps63
    go_wp2_with fail
    go_ret
    exact ⟨rfl, rfl⟩
  · have hem : s.toList.isEmpty = false := by rw [empty_l]; simp [h0]
    have hp : 0 < s.size := by omega
    have hpl : 0 < s.data.toList.length := by rw [ba_l]; exact hp
    have b0 : (0 : Int) < (s.size : Int) := by omega
    rw [nameL_first hpl, at_l s 0 hp] at h
    obtain ⟨c, hc⟩ : ∃ c, s[0]'hp = c := ⟨_, rfl⟩
    have hca : ∀ h, s[0]'h = c := fun _ => hc
    rw [hc] at h
    cases hl : ltr c with
    | false =>
      have HL := Lib.hid hl
      obtain rfl : false = b := by rw [← h, hl]; rfl
      clear h hm h0 hl hc hpl
      go_enter Try.func63, Try.ntmps63
      go_wp2_with (first
        | (go_at_call 69; (with_reducible refine (begins9 c _ false HL.out).mono ?_); rintro e1 w1 ⟨rfl, rfl⟩)
        | fail)
      go_ret
      exact ⟨rfl, rfl⟩
    | true =>
      have HL := Lib.hid hl
      have HB : Hid (s.data.toList.all nch = b) := Lib.hid (by rw [← h, hl]; rfl)
      clear h hm h0 hl hc hpl
      go_enter Try.func63, Try.ntmps63
      go_wp2_with (first
        | (go_at_call 69; (with_reducible refine (begins9 c _ true HL.out).mono ?_); rintro e1 w1 ⟨rfl, rfl⟩)
        | fail)
      go_loopw [14] (fun i wr => ∃ k : Nat, k ≤ s.size ∧ i = .int .i64 k ∧ (s.data.toList.take k).all nch = true ∧ w = wr) (fun i _ => s.size - (intOf i).toNat)
      case atStart => exact ⟨0, Nat.zero_le _, rfl, rfl, by first | rfl | trivial⟩
      case round =>
        obtain ⟨k, hk, rfl, hn, rfl⟩ := hrel
        have hs := HM.out
        by_cases hlt : k < s.size
        · obtain ⟨d, hd⟩ : ∃ d, s[k]'hlt = d := ⟨_, rfl⟩
          have hda : ∀ h, s[k]'h = d := fun _ => hd
          have hkl : k < s.data.toList.length := by rw [ba_l]; exact hlt
          have hdk : s.data.toList[k]'hkl = d := (at_l s k hlt).trans hd
          have bk : (0 : Int) ≤ (k : Int) ∧ (k : Int) < (s.size : Int) := by omega
          cases hg : nch d with
          | false =>
            have HD := Lib.hid hg
            obtain rfl : false = b := by
              rw [← HB.out]
              refine (List.all_eq_false.2 ⟨d, hdk ▸ List.getElem_mem hkl, ?_⟩).symm
              rw [hg]; decide
            clear hg hd hdk hn
            go_wp2_with (first
              | (go_at_call 70; (with_reducible refine (goesOn9 d _ false HD.out).mono ?_); rintro e2 w2 ⟨rfl, rfl⟩)
              | fail)
            go_ret
            exact ⟨rfl, rfl⟩
          | true =>
            have HD := Lib.hid hg
            have HV : Hid ((s.data.toList.take (k + 1)).all nch = true) := Lib.hid (by
              rw [List.take_succ_eq_append_getElem hkl, List.all_append, hn, hdk]
              simp [hg])
            clear hg hd hdk hn
            go_wp2_with (first
              | (go_at_call 70; (with_reducible refine (goesOn9 d _ true HD.out).mono ?_); rintro e2 w2 ⟨rfl, rfl⟩)
              | fail)
            go_roundw
            case rel => exact ⟨k + 1, hlt, by go_num, HV.out, by first | rfl | trivial⟩
            case measure => simp [intOf]; omega
        · obtain rfl : k = s.size := by omega
          obtain rfl : true = b := by
            rw [← HB.out]
            rw [List.take_of_length_le (by rw [ba_l]; omega)] at hn
            exact hn.symm
          clear hn
          go_wp2_with fail
          go_ret
          exact ⟨rfl, rfl⟩
set_option maxHeartbeats 4000000 in
set_option maxRecDepth 100000 in
theorem full9q (s : ByteArray) (w : World) (hm : s.size ≤ 1000000) (b : Bool) (h : fullL s.data.toList = b) :
    Calls Try.prog 56 #[.string s] w fun e w' => e = .returned (.bool b) ∧ Below w.heap.size w w' := by
  unfold fullL at h
  have HMs := Lib.hid hm
  cases hc : cutC s.data.toList with
  | none =>
    rw [hc] at h
    have HC : Hid (Calls Try.prog 62 #[.string s, .string ⟨#[58]⟩] w (XCutAt s ⟨#[]⟩ false w)) := Lib.hid (xcut_58_none s w fun hx => by
      have := cutC_some9 hx
      rw [hc] at this
      cases this)
    have Hs : Hid (nameL s.data.toList = b) := Lib.hid h
    clear hc h hm
    cases b with
    | false =>
      go_enter Try.func56, Try.ntmps56
      go_wp2_with (first
        | (go_at_call 62; (with_reducible refine (HC.out).mono ?_); rintro e1 w1 ⟨rfl, hb1⟩)
        | (go_at_call 63; (with_reducible refine (name9q s w1 HMs.out false Hs.out).mono ?_); rintro e2 w2 ⟨rfl, rfl⟩)
        | fail)
      go_ret
      exact ⟨rfl, hb1⟩
    | true =>
      go_enter Try.func56, Try.ntmps56
      go_wp2_with (first
        | (go_at_call 62; (with_reducible refine (HC.out).mono ?_); rintro e1 w1 ⟨rfl, hb1⟩)
        | (go_at_call 63; (with_reducible refine (name9q s w1 HMs.out true Hs.out).mono ?_); rintro e2 w2 ⟨rfl, rfl⟩)
        | fail)
      go_ret
      exact ⟨rfl, hb1⟩
  | some p =>
    obtain ⟨pa, pb⟩ := p
    rw [hc] at h
    dsimp only at h
    obtain ⟨e1, e2⟩ := cutC_some hc
    obtain ⟨x, hx⟩ : ∃ x : ByteArray, x.data.toList = pa := ⟨⟨pa.toArray⟩, by simp⟩
    obtain ⟨y, hy⟩ : ∃ y : ByteArray, y.data.toList = pb := ⟨⟨pb.toArray⟩, by simp⟩
    subst hx hy
    have hl := congrArg List.length e1
    rw [List.length_append, List.length_cons, ba_l, ba_l, ba_l] at hl
    have HMx : Hid (x.size ≤ 1000000) := Lib.hid (by omega)
    have HMy : Hid (y.size ≤ 1000000) := Lib.hid (by omega)
    have HC : Hid (Calls Try.prog 62 #[.string s, .string ⟨#[58]⟩] w (XCutAt x y true w)) := Lib.hid (xcut_58_some s x y w hm e1 e2)
    cases h1 : nameL x.data.toList with
    | false =>
      have Hx := Lib.hid h1
      obtain rfl : false = b := by rw [← h, h1]; simp
      clear hc h hm e1 e2 hl h1
      go_enter Try.func56, Try.ntmps56
      go_wp2_with (first
        | (go_at_call 62; (with_reducible refine (HC.out).mono ?_); rintro e1 w1 ⟨rfl, hb1⟩)
        | (go_at_call 63; (with_reducible refine (name9q x w1 HMx.out false Hx.out).mono ?_); rintro e2 w2 ⟨rfl, rfl⟩)
        | fail)
      go_ret
      exact ⟨rfl, hb1⟩
    | true =>
      have Hx := Lib.hid h1
      have Hy : Hid (nameL y.data.toList = b) := Lib.hid (by rw [← h, h1]; simp)
      clear hc h hm e1 e2 hl h1
      cases b with
      | false =>
        have tok1 : True := trivial
        go_enter Try.func56, Try.ntmps56
        go_wp2_with (first
          | (go_at_call 62; (with_reducible refine (HC.out).mono ?_); rintro e1 w1 ⟨rfl, hb1⟩)
          | (have _t := tok1; go_at_call 63; (with_reducible refine (name9q x w1 HMx.out true Hx.out).mono ?_); rintro e2 w2 ⟨rfl, rfl⟩; clear tok1)
          | (go_at_call 63; (with_reducible refine (name9q y w1 HMy.out false Hy.out).mono ?_); rintro e3 w3 ⟨rfl, rfl⟩)
          | fail)
        go_ret
        exact ⟨rfl, hb1⟩
      | true =>
        have tok1 : True := trivial
        go_enter Try.func56, Try.ntmps56
        go_wp2_with (first
          | (go_at_call 62; (with_reducible refine (HC.out).mono ?_); rintro e1 w1 ⟨rfl, hb1⟩)
          | (have _t := tok1; go_at_call 63; (with_reducible refine (name9q x w1 HMx.out true Hx.out).mono ?_); rintro e2 w2 ⟨rfl, rfl⟩; clear tok1)
          | (go_at_call 63; (with_reducible refine (name9q y w1 HMy.out true Hy.out).mono ?_); rintro e3 w3 ⟨rfl, rfl⟩)
          | fail)
        go_ret
        exact ⟨rfl, hb1⟩
end Hx
end Go.Proofs.Ytkmaogafknehgaa
namespace Go.Proofs.Ytkmaogafknehgaa
namespace Tx
open Go

theorem get_drop (s : ByteArray) (i k : Nat) : s.get! (i + k) = (s.data.toList.drop i).getD k default := by
  rw [List.getD_eq_getElem?_getD, List.getElem?_drop]
  show s.data[i + k]! = _
  rw [getElem!_def, Array.getElem?_toList]
  cases s.data[i + k]? <;> rfl
theorem size_drop (s : ByteArray) (i k : Nat) : (i + k < s.size) = (k < (s.data.toList.drop i).length) := by
  have e : s.data.toList.length = s.size := by rw [Array.length_toList]; rfl
  rw [List.length_drop, e]
  apply propext
  omega
set_option linter.unusedSimpArgs false in
set_option maxRecDepth 100000 in
/-- What the model reads at a place: a scalar value and how many bytes; or the rune that stands for none, one byte. -/
theorem decode_eq (s : ByteArray) (i : Nat) (h : i < s.size) : Utf8.decode s i = match decL (s.data.toList.drop i) with | some p => p | none => (65533, 1) := by
  have hp : 0 < (s.data.toList.drop i).length := by rw [← size_drop]; exact h
  unfold Utf8.decode
  simp only [get_drop, size_drop]
  generalize s.data.toList.drop i = l at hp
  have hv : ∀ c : Nat, Utf8.valid (c : Int) = sv c := by
    intro c
    unfold Utf8.valid sv
    rw [Bool.eq_iff_iff]
    simp
    omega
  have hh : ∀ a : UInt8, (a.toNat / 64 == 2) = cont a := by
    intro a
    unfold cont
    rw [Bool.eq_iff_iff]
    simp
  have hre : Utf8.runeError = 65533 := rfl
  cases l with
  | nil => simp at hp
  | cons a r =>
    have ha := a.toNat_lt
    simp only [List.getD_cons_zero, List.length_cons]
    unfold decL
    dsimp only
    by_cases h1 : a.toNat < 128
    · rw [if_pos h1, if_pos h1]
    · rw [if_neg h1, if_neg h1]
      by_cases h2 : a.toNat / 32 = 6
      · rw [if_pos h2]
        cases r with
        | nil => simp [h2, hre]
        | cons b r =>
          simp only [h2, List.getD_cons_succ, List.getD_cons_zero, hh, List.length_cons, beq_self_eq_true, Bool.true_and]
          obtain ⟨x, hx⟩ : ∃ x, a.toNat % 32 * 64 + b.toNat % 64 = x := ⟨_, rfl⟩
          simp only [hx]
          cases hc : cont b
          · simp [hre]
          · by_cases hq : 128 ≤ x
            · simp [hq]
            · simp [hq, hre]
      · rw [if_neg h2]
        by_cases h3 : a.toNat / 16 = 14
        · rw [if_pos h3]
          match r with
          | [] => simp [h2, h3, hre]
          | [b] => simp [h2, h3, hre]
          | b :: c :: r =>
            simp only [h3, List.getD_cons_succ, List.getD_cons_zero, hh, List.length_cons, beq_self_eq_true, Bool.true_and]
            obtain ⟨x, hx⟩ : ∃ x, a.toNat % 16 * 4096 + b.toNat % 64 * 64 + c.toNat % 64 = x := ⟨_, rfl⟩
            simp only [hx]
            cases hb : cont b <;> cases hc : cont c
            · simp [h2, hre]
            · simp [h2, hre]
            · simp [h2, hre]
            · by_cases hq : 2048 ≤ x
              · cases hs : sv x <;> simp [h2, hv, hq, hs, hre]
              · simp [h2, hq, hre]
        · rw [if_neg h3]
          by_cases h4 : a.toNat / 8 = 30
          · rw [if_pos h4]
            match r with
            | [] => simp [h2, h3, h4, hre]
            | [b] => simp [h2, h3, h4, hre]
            | [b, c] => simp [h2, h3, h4, hre]
            | b :: c :: d :: r =>
              simp only [h4, List.getD_cons_succ, List.getD_cons_zero, hh, List.length_cons, beq_self_eq_true, Bool.true_and]
              obtain ⟨x, hx⟩ : ∃ x, a.toNat % 8 * 262144 + b.toNat % 64 * 4096 + c.toNat % 64 * 64 + d.toNat % 64 = x := ⟨_, rfl⟩
              simp only [hx]
              cases hb : cont b <;> cases hc : cont c <;> cases hd : cont d
              · simp [h2, h3, hre]
              · simp [h2, h3, hre]
              · simp [h2, h3, hre]
              · simp [h2, h3, hre]
              · simp [h2, h3, hre]
              · simp [h2, h3, hre]
              · simp [h2, h3, hre]
              · by_cases hq : 65536 ≤ x
                · cases hs : sv x <;> simp [h2, h3, hv, hq, hs, hre]
                · simp [h2, h3, hq, hre]
          · rw [if_neg h4]
            simp [h2, h3, h4, hre]
/-- What the model writes of a scalar value. -/
theorem encode_eq (n : Nat) (h : sv n = true) : Utf8.encode (n : Int) = ⟨(enc n).toArray⟩ := by
  have hv : Utf8.valid (n : Int) = true := by
    simp [sv] at h
    simp [Utf8.valid]
    omega
  unfold Utf8.encode enc
  simp only [hv, if_true, Int.toNat_natCast]
  by_cases h1 : n < 128
  · rw [if_pos h1, if_pos h1]; rfl
  · rw [if_neg h1, if_neg h1]
    by_cases h2 : n < 2048
    · rw [if_pos h2, if_pos h2]; rfl
    · rw [if_neg h2, if_neg h2]
      by_cases h3 : n < 65536
      · rw [if_pos h3, if_pos h3]; rfl
      · rw [if_neg h3, if_neg h3]; rfl
end Tx
end Go.Proofs.Ytkmaogafknehgaa
namespace Go.Proofs.Ytkmaogafknehgaa
open Go.RowKit
namespace Hx
open Tx
set_option linter.unusedVariables false

theorem may_low {n : Int} (h : n < 32) : may n = (decide (n = 9) || decide (n = 10) || decide (n = 13)) := by unfold may; rw [if_pos h]
theorem may_high {n : Int} (h : ¬ n < 32) : may n = (decide (n ≤ 1114111) && (decide (n < 55296) || decide (57343 < n)) && decide (n ≠ 65534) && decide (n ≠ 65535)) := by unfold may; rw [if_neg h]
set_option maxHeartbeats 1000000 in
set_option maxRecDepth 100000 in
/-- ref.May. -/
theorem rmay_any (n : Int) (b : Bool) (w : World) (hb : may n = b) :
    Calls Try.prog 83 #[.int .i64 n] w fun e w' => e = .returned (.bool b) ∧ w = w' := by
  by_cases h1 : n < 32
  · rw [may_low h1] at hb
    by_cases a : n = 9
    · subst a
      obtain rfl : true = b := hb
      go_enter Try.func83, Try.ntmps83
      go_wp2
      go_ret
      exact ⟨rfl, rfl⟩
    · by_cases a2 : n = 10
      · subst a2
        obtain rfl : true = b := hb
        go_enter Try.func83, Try.ntmps83
        go_wp2
        go_ret
        exact ⟨rfl, rfl⟩
      · have q1 : (n == 9) = false := by simpa using a
        have q2 : (n == 10) = false := by simpa using a2
        by_cases a3 : n = 13
        · subst a3
          obtain rfl : true = b := hb
          go_enter Try.func83, Try.ntmps83
          go_wp2
          go_ret
          exact ⟨rfl, rfl⟩
        · have q3 : (n == 13) = false := by simpa using a3
          obtain rfl : false = b := by rw [← hb]; simp [a, a2, a3]
          have d1 : decide (n < 32) = true := by simpa using h1
          clear hb
          go_enter Try.func83, Try.ntmps83
          go_wp2
          go_ret
          exact ⟨rfl, rfl⟩
  · rw [may_high h1] at hb
    have d1 : decide (n < 32) = false := by simpa using h1
    by_cases a1 : n ≤ 1114111
    · have d2 : decide (n ≤ 1114111) = true := by simpa using a1
      by_cases a2 : 55296 ≤ n ∧ n ≤ 57343
      · have d3 : decide (n < 55296) = false := by simp; omega
        have d4 : decide (57343 < n) = false := by simp; omega
        obtain rfl : false = b := by rw [← hb, d2, d3, d4]; rfl
        clear hb a2 h1 a1
        go_enter Try.func83, Try.ntmps83
        go_wp2
        go_ret
        exact ⟨rfl, rfl⟩
      · by_cases a3 : n = 65534
        · subst a3
          obtain rfl : false = b := hb
          go_enter Try.func83, Try.ntmps83
          go_wp2
          go_ret
          exact ⟨rfl, rfl⟩
        · have q1 : (n == 65534) = false := by simpa using a3
          have q1' : (n != 65534) = true := by simpa using a3
          by_cases a4 : n = 65535
          · subst a4
            obtain rfl : false = b := hb
            go_enter Try.func83, Try.ntmps83
            go_wp2
            go_ret
            exact ⟨rfl, rfl⟩
          · have q2 : (n == 65535) = false := by simpa using a4
            have q2' : (n != 65535) = true := by simpa using a4
            by_cases a5 : n < 55296
            · have d3 : decide (n < 55296) = true := by simpa using a5
              obtain rfl : true = b := by rw [← hb, d2, d3]; simp [a3, a4]
              clear hb a2 h1 a1 a3 a4 a5
              go_enter Try.func83, Try.ntmps83
              go_wp2
              go_ret
              exact ⟨rfl, rfl⟩
            · have d3 : decide (n < 55296) = false := by simpa using a5
              have d4 : decide (57343 < n) = true := by simp; omega
              obtain rfl : true = b := by rw [← hb, d2, d3, d4]; simp [a3, a4]
              clear hb a2 h1 a1 a3 a4 a5
              go_enter Try.func83, Try.ntmps83
              go_wp2
              go_ret
              exact ⟨rfl, rfl⟩
    · have d2 : decide (n ≤ 1114111) = false := by simpa using a1
      obtain rfl : false = b := by rw [← hb, d2]; rfl
      clear hb
      go_enter Try.func83, Try.ntmps83
      go_wp2
      go_ret
      exact ⟨rfl, rfl⟩

set_option maxHeartbeats 1000000 in
set_option maxRecDepth 100000 in
/-- ref.six. -/
theorem six_any (n up : Nat) (b : UInt8) (w : World) (hn : n ≤ 1114111) (hu : up ≤ 2) (hb : bt (128 + n / 64 ^ up % 64) = b) :
    Calls Try.prog 87 #[.int .i64 n, .int .i64 up] w fun e w' => e = .returned (.int .u8 b.toNat) ∧ w = w' := by
  have hbn : b.toNat = 128 + n / 64 ^ up % 64 := by rw [← hb, bt_nat _ (by omega)]
  have HB := Lib.hid hbn
  have HN := Lib.hid hn
  have HU := Lib.hid hu
  clear hb hbn hn hu
  go_enter Try.func87, Try.ntmps87
  go_wp2
  go_loop [0, 5] (fun v i => ∃ k m : Nat, k ≤ up ∧ i = .int .i64 k ∧ m = n / 64 ^ k ∧ v = .int .i64 m) (fun _ i => up - (intOf i).toNat)
  case atStart => exact ⟨0, n, Nat.zero_le _, rfl, by simp, rfl⟩
  case round =>
    obtain ⟨k, m, hk, rfl, hm, rfl⟩ := hrel
    have hm2 : m ≤ 1114111 := by rw [hm]; exact Nat.le_trans (Nat.div_le_self _ _) HN.out
    have hu2 := HU.out
    have HM := Lib.hid hm
    clear hm
    by_cases hlt : k < up
    · obtain ⟨q, hq⟩ : ∃ q, m / 64 = q := ⟨_, rfl⟩
      have g1 : (m : Int).tdiv 64 = (q : Int) := by rw [Int.tdiv_eq_ediv_of_nonneg (by omega)]; omega
      have g2 : IntKind.i64.wrap (q : Int) = (q : Int) := IntWalk.i64_in _ (by omega)
      have HQ := Lib.hid hq
      clear hq
      go_wp2
      go_round
      case rel => exact ⟨k + 1, q, hlt, by go_num, by rw [← HQ.out, HM.out, Nat.pow_succ, Nat.div_div_eq_div_mul], rfl⟩
      case measure => simp [intOf]; omega
    · obtain rfl : k = up := by omega
      obtain ⟨q, hq⟩ : ∃ q, m % 64 = q := ⟨_, rfl⟩
      have g1 : (m : Int).tmod 64 = (q : Int) := by rw [Int.tmod_eq_emod_of_nonneg (by omega)]; omega
      have g2 : IntKind.i64.wrap (q : Int) = (q : Int) := IntWalk.i64_in _ (by omega)
      have g3 : IntKind.i64.wrap (128 + (q : Int)) = 128 + (q : Int) := IntWalk.i64_in _ (by omega)
      have g4 : IntKind.u8.wrap (128 + (q : Int)) = 128 + (q : Int) := IntWalk.u8_in _ (by omega)
      have HE : Hid ((128 + (q : Int)) = (b.toNat : Int)) := by show _ = _; rw [HB.out, ← HM.out, hq]; omega
      clear hq
      go_wp2
      go_ret
      exact ⟨by rw [← HE.out]; rfl, rfl⟩
theorem six_0 (n : Nat) (b : UInt8) (w : World) (hn : n ≤ 1114111) (hb : bt (128 + n % 64) = b) :
    Calls Try.prog 87 #[.int .i64 n, .int .i64 0] w fun e w' => e = .returned (.int .u8 b.toNat) ∧ w = w' := six_any n 0 b w hn (by decide) (by simpa using hb)
theorem six_1 (n : Nat) (b : UInt8) (w : World) (hn : n ≤ 1114111) (hb : bt (128 + n / 64 % 64) = b) :
    Calls Try.prog 87 #[.int .i64 n, .int .i64 1] w fun e w' => e = .returned (.int .u8 b.toNat) ∧ w = w' := six_any n 1 b w hn (by decide) (by simpa using hb)
theorem six_2 (n : Nat) (b : UInt8) (w : World) (hn : n ≤ 1114111) (hb : bt (128 + n / 4096 % 64) = b) :
    Calls Try.prog 87 #[.int .i64 n, .int .i64 2] w fun e w' => e = .returned (.int .u8 b.toNat) ∧ w = w' := six_any n 2 b w hn (by decide) (by simpa using hb)
/-- What Bytes answers. -/
def BytesTo (l : List UInt8) (w : World) (e : Ending) (w' : World) : Prop := Below w.heap.size w w' ∧ ∃ g c, e = .returned (.slice (some ⟨g, 0, none⟩) l.length c) ∧ w.heap.size ≤ g ∧ RdA w' w'.heap.size (some ⟨g, 0, none⟩) l
set_option maxHeartbeats 2000000 in
set_option maxRecDepth 100000 in
/-- ref.Bytes. -/
theorem rbytes5_any (n : Nat) (w : World) (hn : n ≤ 1114111) : Calls Try.prog 84 #[.int .i64 n] w (BytesTo (enc n) w) := by
  by_cases h1 : n < 128
  · obtain ⟨b0, hb0⟩ : ∃ b0, bt n = b0 := ⟨_, rfl⟩
    have k0 : (b0.toNat : Int) = (n : Int) := by rw [← hb0, bt_nat _ (by omega)]
    have e0 : enc n = [b0] := by unfold enc; rw [if_pos h1, hb0]
    rw [e0]
    have d1 : decide ((n : Int) < 128) = true := by simp; omega
    have g0 : IntKind.u8.wrap (n : Int) = (b0.toNat : Int) := by rw [k0]; exact IntWalk.u8_in _ (by omega)
    clear k0 e0 hb0
    go_enter Try.func84, Try.ntmps84
    go_wp2
    go_ret
    exact ⟨stpA (Below.refl _ _) _, w.heap.size, 1, rfl, Nat.le_refl _, RdA.newS w 5 [b0]⟩
  · have d1 : decide ((n : Int) < 128) = false := by simp; omega
    by_cases h2 : n < 2048
    · have d2 : decide ((n : Int) < 2048) = true := by simp; omega
      obtain ⟨b0, hb0⟩ : ∃ b0, bt (192 + n / 64) = b0 := ⟨_, rfl⟩
      obtain ⟨b1, hb1⟩ : ∃ b1, bt (128 + n % 64) = b1 := ⟨_, rfl⟩
      obtain ⟨q, hq⟩ : ∃ q, n / 64 = q := ⟨_, rfl⟩
      have e0 : enc n = [b0, b1] := by unfold enc; rw [if_neg h1, if_pos h2, hb0, hb1]
      rw [e0]
      have k0 : (b0.toNat : Int) = 192 + (q : Int) := by rw [← hb0, bt_nat _ (by omega)]; omega
      have g1 : (n : Int).tdiv 64 = (q : Int) := by rw [Int.tdiv_eq_ediv_of_nonneg (by omega)]; omega
      have g2 : IntKind.i64.wrap (q : Int) = (q : Int) := IntWalk.i64_in _ (by omega)
      have g3 : IntKind.i64.wrap (192 + (q : Int)) = (b0.toNat : Int) := by rw [IntWalk.i64_in _ (by omega)]; omega
      have a0 := b0.toNat_lt
      have g4 : IntKind.u8.wrap (b0.toNat : Int) = (b0.toNat : Int) := IntWalk.u8_in _ (by omega)
      have H0 := Lib.hid hb1
      have HN := Lib.hid hn
      clear k0 e0 hb0 hb1 hq h1 h2 hn
      go_enter Try.func84, Try.ntmps84
      go_wp2_with (first
        | (go_at_call 87; (with_reducible refine (six_0 n b1 w HN.out H0.out).mono ?_); rintro e w1 ⟨rfl, rfl⟩)
        | fail)
      go_ret
      exact ⟨stpA (Below.refl _ _) _, w.heap.size, 2, rfl, Nat.le_refl _, RdA.newS w 5 [b0, b1]⟩
    · have d2 : decide ((n : Int) < 2048) = false := by simp; omega
      by_cases h3 : n < 65536
      · have d3 : decide ((n : Int) < 65536) = true := by simp; omega
        obtain ⟨b0, hb0⟩ : ∃ b0, bt (224 + n / 4096) = b0 := ⟨_, rfl⟩
        obtain ⟨b1, hb1⟩ : ∃ b1, bt (128 + n / 64 % 64) = b1 := ⟨_, rfl⟩
        obtain ⟨b2, hb2⟩ : ∃ b2, bt (128 + n % 64) = b2 := ⟨_, rfl⟩
        obtain ⟨q, hq⟩ : ∃ q, n / 4096 = q := ⟨_, rfl⟩
        have e0 : enc n = [b0, b1, b2] := by unfold enc; rw [if_neg h1, if_neg h2, if_pos h3, hb0, hb1, hb2]
        rw [e0]
        have k0 : (b0.toNat : Int) = 224 + (q : Int) := by rw [← hb0, bt_nat _ (by omega)]; omega
        have g1 : (n : Int).tdiv 4096 = (q : Int) := by rw [Int.tdiv_eq_ediv_of_nonneg (by omega)]; omega
        have g2 : IntKind.i64.wrap (q : Int) = (q : Int) := IntWalk.i64_in _ (by omega)
        have g3 : IntKind.i64.wrap (224 + (q : Int)) = (b0.toNat : Int) := by rw [IntWalk.i64_in _ (by omega)]; omega
        have a0 := b0.toNat_lt
        have g4 : IntKind.u8.wrap (b0.toNat : Int) = (b0.toNat : Int) := IntWalk.u8_in _ (by omega)
        have H0 := Lib.hid hb1
        have H1 := Lib.hid hb2
        have HN := Lib.hid hn
        clear k0 e0 hb0 hb1 hb2 hq h1 h2 h3 hn
        go_enter Try.func84, Try.ntmps84
        go_wp2_with (first
          | (go_at_call 87; (with_reducible refine (six_1 n b1 w HN.out H0.out).mono ?_); rintro e w1 ⟨rfl, rfl⟩)
          | (go_at_call 87; (with_reducible refine (six_0 n b2 w HN.out H1.out).mono ?_); rintro e w1 ⟨rfl, rfl⟩)
          | fail)
        go_ret
        exact ⟨stpA (Below.refl _ _) _, w.heap.size, 3, rfl, Nat.le_refl _, RdA.newS w 5 [b0, b1, b2]⟩
      · have d3 : decide ((n : Int) < 65536) = false := by simp; omega
        obtain ⟨b0, hb0⟩ : ∃ b0, bt (240 + n / 262144) = b0 := ⟨_, rfl⟩
        obtain ⟨b1, hb1⟩ : ∃ b1, bt (128 + n / 4096 % 64) = b1 := ⟨_, rfl⟩
        obtain ⟨b2, hb2⟩ : ∃ b2, bt (128 + n / 64 % 64) = b2 := ⟨_, rfl⟩
        obtain ⟨b3, hb3⟩ : ∃ b3, bt (128 + n % 64) = b3 := ⟨_, rfl⟩
        obtain ⟨q, hq⟩ : ∃ q, n / 262144 = q := ⟨_, rfl⟩
        have e0 : enc n = [b0, b1, b2, b3] := by unfold enc; rw [if_neg h1, if_neg h2, if_neg h3, hb0, hb1, hb2, hb3]
        rw [e0]
        have k0 : (b0.toNat : Int) = 240 + (q : Int) := by rw [← hb0, bt_nat _ (by omega)]; omega
        have g1 : (n : Int).tdiv 262144 = (q : Int) := by rw [Int.tdiv_eq_ediv_of_nonneg (by omega)]; omega
        have g2 : IntKind.i64.wrap (q : Int) = (q : Int) := IntWalk.i64_in _ (by omega)
        have g3 : IntKind.i64.wrap (240 + (q : Int)) = (b0.toNat : Int) := by rw [IntWalk.i64_in _ (by omega)]; omega
        have a0 := b0.toNat_lt
        have g4 : IntKind.u8.wrap (b0.toNat : Int) = (b0.toNat : Int) := IntWalk.u8_in _ (by omega)
        have H0 := Lib.hid hb1
        have H1 := Lib.hid hb2
        have H2 := Lib.hid hb3
        have HN := Lib.hid hn
        clear k0 e0 hb0 hb1 hb2 hb3 hq h1 h2 h3 hn
        go_enter Try.func84, Try.ntmps84
        go_wp2_with (first
          | (go_at_call 87; (with_reducible refine (six_2 n b1 w HN.out H0.out).mono ?_); rintro e w1 ⟨rfl, rfl⟩)
          | (go_at_call 87; (with_reducible refine (six_1 n b2 w HN.out H1.out).mono ?_); rintro e w1 ⟨rfl, rfl⟩)
          | (go_at_call 87; (with_reducible refine (six_0 n b3 w HN.out H2.out).mono ?_); rintro e w1 ⟨rfl, rfl⟩)
          | fail)
        go_ret
        exact ⟨stpA (Below.refl _ _) _, w.heap.size, 4, rfl, Nat.le_refl _, RdA.newS w 5 [b0, b1, b2, b3]⟩
/-- How many bytes the first one tells, and its bits. -/
def hd (c : Nat) : Nat × Nat := if c < 128 then (1, c) else if 192 ≤ c ∧ c < 224 then (2, c - 192) else if 224 ≤ c ∧ c < 240 then (3, c - 224) else if 240 ≤ c ∧ c < 248 then (4, c - 240) else (0, 0)
set_option maxHeartbeats 1000000 in
set_option maxRecDepth 100000 in
/-- ref.head. -/
theorem head_any (c : Nat) (w : World) (s b : Nat) (hc : c < 256) (h : hd c = (s, b)) :
    Calls Try.prog 82 #[.int .i64 c] w fun e w' => e = .returned (.tuple #[.int .i64 s, .int .i64 b]) ∧ w = w' := by
  unfold hd at h
  by_cases h1 : c < 128
  · rw [if_pos h1] at h
    cases h
    have d1 : decide ((c : Int) < 128) = true := by simp; omega
    go_enter Try.func82, Try.ntmps82
    go_wp2
    go_ret2
    exact ⟨rfl, rfl⟩
  · rw [if_neg h1] at h
    have d1 : decide ((c : Int) < 128) = false := by simp; omega
    by_cases h2 : 192 ≤ c ∧ c < 224
    · rw [if_pos h2] at h
      have d2 : decide ((192 : Int) ≤ (c : Int)) = true := by simp; omega
      have d3 : decide ((c : Int) < 224) = true := by simp; omega
      have g1 : IntKind.i64.wrap ((c : Int) - 192) = (b : Int) := by rw [IntWalk.i64_in _ (by omega)]; cases h; omega
      obtain rfl : 2 = s := by cases h; rfl
      clear h h1 h2
      go_enter Try.func82, Try.ntmps82
      go_wp2
      go_ret2
      exact ⟨rfl, rfl⟩
    · rw [if_neg h2] at h
      by_cases h3 : 224 ≤ c ∧ c < 240
      · rw [if_pos h3] at h
        have d2 : decide ((192 : Int) ≤ (c : Int)) = true := by simp; omega
        have d3 : decide ((c : Int) < 224) = false := by simp; omega
        have d4 : decide ((224 : Int) ≤ (c : Int)) = true := by simp; omega
        have d5 : decide ((c : Int) < 240) = true := by simp; omega
        have g1 : IntKind.i64.wrap ((c : Int) - 224) = (b : Int) := by rw [IntWalk.i64_in _ (by omega)]; cases h; omega
        obtain rfl : 3 = s := by cases h; rfl
        clear h h1 h2 h3
        go_enter Try.func82, Try.ntmps82
        go_wp2
        go_ret2
        exact ⟨rfl, rfl⟩
      · rw [if_neg h3] at h
        by_cases h4 : 240 ≤ c ∧ c < 248
        · rw [if_pos h4] at h
          have d2 : decide ((192 : Int) ≤ (c : Int)) = true := by simp; omega
          have d3 : decide ((c : Int) < 224) = false := by simp; omega
          have d4 : decide ((224 : Int) ≤ (c : Int)) = true := by simp; omega
          have d5 : decide ((c : Int) < 240) = false := by simp; omega
          have d6 : decide ((240 : Int) ≤ (c : Int)) = true := by simp; omega
          have d7 : decide ((c : Int) < 248) = true := by simp; omega
          have g1 : IntKind.i64.wrap ((c : Int) - 240) = (b : Int) := by rw [IntWalk.i64_in _ (by omega)]; cases h; omega
          obtain rfl : 4 = s := by cases h; rfl
          clear h h1 h2 h3 h4
          go_enter Try.func82, Try.ntmps82
          go_wp2
          go_ret2
          exact ⟨rfl, rfl⟩
        · rw [if_neg h4] at h
          obtain ⟨rfl, rfl⟩ : 0 = s ∧ 0 = b := by cases h; exact ⟨rfl, rfl⟩
          by_cases h5 : c < 192
          · have d2 : decide ((192 : Int) ≤ (c : Int)) = false := by simp; omega
            have d4 : decide ((224 : Int) ≤ (c : Int)) = false := by simp; omega
            have d6 : decide ((240 : Int) ≤ (c : Int)) = false := by simp; omega
            clear h h1 h2 h3 h4 h5
            go_enter Try.func82, Try.ntmps82
            go_wp2
            go_ret2
            exact ⟨rfl, rfl⟩
          · have d2 : decide ((192 : Int) ≤ (c : Int)) = true := by simp; omega
            have d3 : decide ((c : Int) < 224) = false := by simp; omega
            have d4 : decide ((224 : Int) ≤ (c : Int)) = true := by simp; omega
            have d5 : decide ((c : Int) < 240) = false := by simp; omega
            have d6 : decide ((240 : Int) ≤ (c : Int)) = true := by simp; omega
            have d7 : decide ((c : Int) < 248) = false := by simp; omega
            clear h h1 h2 h3 h4 h5
            go_enter Try.func82, Try.ntmps82
            go_wp2
            go_ret2
            exact ⟨rfl, rfl⟩
end Hx
end Go.Proofs.Ytkmaogafknehgaa
namespace Go.Proofs.Ytkmaogafknehgaa
open Go.RowKit
namespace Tx
open Go Hx
/-- Bits put behind bits. -/
def fd (b : Nat) (l : List UInt8) : Nat := l.foldl (fun n c => 64 * n + c.toNat % 64) b
theorem fd_snoc (b : Nat) (l : List UInt8) (c : UInt8) : fd b (l ++ [c]) = 64 * fd b l + c.toNat % 64 := by simp [fd]
theorem hd_le (c : Nat) : (hd c).1 ≤ 4 ∧ (hd c).2 ≤ 127 := by
  unfold hd
  split
  · simp; omega
  · split
    · simp; omega
    · split
      · simp; omega
      · split <;> simp; omega
/-- What is read tells so much. -/
theorem one_ref {l : List UInt8} {n k : Nat} (h : one l = some (n, k)) : ∃ a r b, l = a :: r ∧ hd a.toNat = (k, b) ∧ k ≠ 0 ∧ k ≤ l.length ∧ fd b (r.take (k - 1)) = n ∧ may n = true ∧ enc n = l.take k := by
  obtain ⟨hm, hs, rfl, r, rfl⟩ := one_sound h
  have hb := sv_le hs
  rw [List.take_left]
  unfold enc
  by_cases h1 : n < 128
  · simp only [if_pos h1]
    refine ⟨bt n, r, n, rfl, ?_, by simp, by simp, rfl, hm, trivial⟩
    rw [bt_nat _ (by omega), hd, if_pos h1]
    rfl
  · simp only [if_neg h1]
    by_cases h2 : n < 2048
    · simp only [if_pos h2]
      refine ⟨_, _, n / 64, rfl, ?_, by simp, by simp, ?_, hm, trivial⟩
      · rw [bt_nat _ (by omega), hd, if_neg (by omega), if_pos (by omega)]
        exact Prod.ext rfl (by show _ - _ = _; omega)
      · simp [fd, bt_nat (128 + n % 64) (by omega)]
        omega
    · simp only [if_neg h2]
      by_cases h3 : n < 65536
      · simp only [if_pos h3]
        refine ⟨_, _, n / 4096, rfl, ?_, by simp, by simp, ?_, hm, trivial⟩
        · rw [bt_nat _ (by omega), hd, if_neg (by omega), if_neg (by omega), if_pos (by omega)]
          exact Prod.ext rfl (by show _ - _ = _; omega)
        · simp [fd, bt_nat (128 + n % 64) (by omega), bt_nat (128 + n / 64 % 64) (by omega)]
          omega
      · simp only [if_neg h3]
        refine ⟨_, _, n / 262144, rfl, ?_, by simp, by simp, ?_, hm, trivial⟩
        · rw [bt_nat _ (by omega), hd, if_neg (by omega), if_neg (by omega), if_neg (by omega), if_pos (by omega)]
          exact Prod.ext rfl (by show _ - _ = _; omega)
        · simp [fd, bt_nat (128 + n % 64) (by omega), bt_nat (128 + n / 64 % 64) (by omega), bt_nat (128 + n / 4096 % 64) (by omega)]
          omega
theorem one_ref2 {l : List UInt8} {n k : Nat} (hm : may n = true) (hk : k ≤ l.length) (he : enc n = l.take k) : one l = some (n, k) := by
  have e : l = enc n ++ l.drop k := by rw [he, List.take_append_drop]
  have hl : k = (enc n).length := by rw [he, List.length_take]; omega
  rw [e, one_enc n hm, ← hl]
end Tx
namespace Hx
open Go
/-- One operation of a drawn region, taken first; the operation written out. -/
theorem takeD {P : Program} {ops : Array Oper} {Q : Exit → Act → World → Prop} {md : Region.Mode} {S : World → Prop} {i : Nat} {oi : Oper} {rest : List Oper} {v : Value} {fuel : Nat} {listed : Array Bool} {a : Act} {w : World} (hd : ops.toList.drop i = oi :: rest)
    (hs : Region.noSelect ops = true) (hf : Region.free md ops listed i = true) (hr : (Region.ready md ops listed).contains i = true)
    (hQ : ∀ c a w, Q (.panic c) (a.put oi.dst v) w → Q (.panic c) a w) (hy : YieldsIf P ops S oi v a) (hS : S w)
    (h : wpAnyH P md ops Q S fuel (listed.setIfInBounds i true) (a.put oi.dst v) w) : wpAnyH P md ops Q S (fuel + 1) listed a w := by
  refine wpAnyH_take (i := i) ?_ hs hf hr hQ hy hS h
  have e : (ops.toList.drop i)[0]? = some oi := by rw [hd]; rfl
  rw [List.getElem?_drop, Nat.add_zero] at e
  simpa using e
end Hx
end Go.Proofs.Ytkmaogafknehgaa
