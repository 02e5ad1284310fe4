/-
  Texts of one seat, put together: LeaF, LeaG, LeaH, LeaI.
-/
import Derived.Test.YtbjgfaflikgobaaGreatDoorH17
import Derived.Test.YtbjgfaflikgobaaGreatDoorShelf2
import Derived.Test.YtbjgfaflikgobaaGreatDoorH08
import Derived.Test.YtbjgfaflikgobaaGreatDoorH03
import Derived.Laws.RangeString
import Derived.Lib.MapLaws
import Derived.RegionTactic
import Derived.Deep.RegionHeld3
import Derived.Deep.LoopGhost
import Derived.Test.YtbjgfaflikgobaaGreatDoorH06
import Derived.Test.YtbjgfaflikgobaaGreatDoorH09
import Derived.Test.YtbjgfaflikgobaaGreatDoorH11
import Derived.Deep.AppendLies
namespace Go.Proofs.YtbjgfaflikgobaaGreatDoor
open Go.RowKit
namespace Hx
open Lx Tx Nmb Es
set_option linter.unusedVariables false
/-- What stands for a code point of a value. -/
def isSp (x : Nat) : Bool := decide (x = 32 ∨ x = 9 ∨ x = 10 ∨ x = 13)
def spc (x : Int) : Int := if x = 32 ∨ x = 9 ∨ x = 10 ∨ x = 13 then 32 else x
theorem valid_no {x : Nat} (h1 : 55296 ≤ x) (h2 : x ≤ 57343) : Lib.validRune (x : Int) = false := by
  unfold Lib.validRune
  exact decide_eq_false (by omega)
theorem valid_yes {x : Nat} (h : sv x = true) : Lib.validRune (x : Int) = true := by
  unfold Lib.validRune
  unfold sv at h
  simp at h
  exact decide_eq_true (by omega)
set_option maxHeartbeats 4000000 in
set_option maxRecDepth 100000 in
theorem irune_bad (x : Nat) (h1 : 55296 ≤ x) (h2 : x ≤ 57343) (w : World) :
    Calls Tryz.prog 191 #[.string ⟨#[32, 9, 10, 13]⟩, .int .i32 x] w fun e w' => e = .returned (.int .i64 (-1)) ∧ Below w.heap.size w w' := by
  have HV : Hid (Calls Tryz.prog 208 #[.int .i32 x] w fun e w' => e = .returned (.bool false) ∧ w = w') := Lib.hid ((Tryz.utf8_ValidRune x w).mono fun e w' ⟨k1, k2⟩ => ⟨by rw [k1, valid_no h1 h2], k2.symm⟩)
  have g1 : decide ((x : Int) < 128) = false := decide_eq_false (by omega)
  have g0 : decide ((0 : Int) ≤ (x : Int)) = true := decide_eq_true (by omega)
  have g2 : ((x : Int) == 65533) = false := by simp; omega
  clear h1 h2
  go_enter Tryz.func191, Tryz.ntmps191
  go_wp2_with (first
    | (go_at_call 208; (with_reducible refine (HV.out).mono ?_); rintro e1 w1 ⟨rfl, rfl⟩)
    | fail)
  go_ret
  exact ⟨rfl, Below.refl _ _⟩
theorem next4 (w : World) (pos : Nat) (h : pos < 4) : ∃ c : Nat, ((c : Int) == 65533) = false ∧ ∀ ty, (Instr.next (.pointer (some ⟨w.heap.size, 0, none⟩)) true ty).run Tryz.prog (w.iter ⟨#[32, 9, 10, 13]⟩ pos) = .ok (.tuple #[.bool true, .int .i64 pos, .int .i32 c]) (w.iter ⟨#[32, 9, 10, 13]⟩ (pos + 1)) := by
  have h' : pos < (⟨#[32, 9, 10, 13]⟩ : ByteArray).size := h
  have hd : ∃ c : Nat, ((c : Int) == 65533) = false ∧ Utf8.decode ⟨#[32, 9, 10, 13]⟩ pos = (c, 1) := by
    rw [decode_eq _ pos h']
    match pos, h with
    | 0, _ => exact ⟨32, rfl, rfl⟩
    | 1, _ => exact ⟨9, rfl, rfl⟩
    | 2, _ => exact ⟨10, rfl, rfl⟩
    | 3, _ => exact ⟨13, rfl, rfl⟩
  obtain ⟨c, h1, h2⟩ := hd
  refine ⟨c, h1, fun ty => ?_⟩
  rw [run_next_any w _ pos ty h', h2]
set_option maxHeartbeats 4000000 in
set_option maxRecDepth 100000 in
theorem irune_err (w : World) :
    Calls Tryz.prog 191 #[.string ⟨#[32, 9, 10, 13]⟩, .int .i32 65533] w fun e w' => e = .returned (.int .i64 (-1)) ∧ Below w.heap.size w w' := by
  go_enter Tryz.func191, Tryz.ntmps191
  go_wp2_with fail
  go_loopg [5, 6] 4 (fun g x y wr => ∃ pos : Nat, pos + g = 4 ∧ wr = w.iter ⟨#[32, 9, 10, 13]⟩ pos)
  case atStart => exact ⟨0, by omega, rfl⟩
  case round =>
    obtain ⟨pos, hg, rfl⟩ := hrel
    by_cases hlt : pos < 4
    · obtain ⟨c, hc, hnx⟩ := next4 w pos hlt
      go_wp2_with fail
      go_roundg (gk - 1)
      case rel => exact ⟨pos + 1, by omega, rfl⟩
      case measure => omega
    · obtain rfl : pos = 4 := by omega
      have hnx : ∀ ty, (Instr.next (.pointer (some ⟨w.heap.size, 0, none⟩)) true ty).run Tryz.prog (w.iter ⟨#[32, 9, 10, 13]⟩ 4) = _ := fun ty => run_next_end w ⟨#[32, 9, 10, 13]⟩ 4 ty (by decide)
      go_wp2_with fail
      go_ret
      exact ⟨rfl, below_iter w _ _⟩
set_option maxRecDepth 100000 in
theorem sib9 (T : ByteArray) (c : UInt8) (q : Int) (w : World) (h : Lib.indexByte T.data.toList c = q) :
    Calls Tryz.prog 167 #[.string T, .int .u8 c.toNat] w fun e w' => e = .returned (.int .i64 q) ∧ w = w' := by
  have HC : Hid (Calls Tryz.prog 177 #[.string T, .int .u8 c.toNat] w fun e w' => e = .returned (.int .i64 q) ∧ w = w') := Lib.hid ((Tryz.stringslite_IndexByte T _ w).mono fun e w' ⟨k1, k2⟩ => ⟨by rw [k1, ← h]; simp, k2.symm⟩)
  clear h
  go_enter Tryz.func167, Tryz.ntmps167
  go_wp2_with (first
    | (go_at_call 177; (with_reducible refine (HC.out).mono ?_); rintro e1 w1 ⟨rfl, rfl⟩)
    | fail)
  go_ret
  exact ⟨rfl, rfl⟩
theorem four_no (c : UInt8) (h : 128 ≤ c.toNat) (k : Nat) : Lib.indexByte (([32, 9, 10, 13] : List UInt8).drop k) c = -1 := by
  rcases xix_cases (([32, 9, 10, 13] : List UInt8).drop k) c with ⟨h1, _⟩ | ⟨i, _, _, h2, _⟩
  · exact h1
  · exfalso
    have hm : c ∈ ([32, 9, 10, 13] : List UInt8) := List.mem_of_mem_drop (i := k) (by rw [h2]; simp)
    simp only [List.mem_cons, List.not_mem_nil, or_false] at hm
    rcases hm with rfl | rfl | rfl | rfl <;> simp at h
set_option maxHeartbeats 4000000 in
set_option maxRecDepth 100000 in
theorem irune_far (x : Nat) (R : ByteArray) (i : Nat) (h1 : 128 ≤ x) (h3 : x ≠ 65533) (hv : sv x = true) (hR : Utf8.encode (x : Int) = R) (hi : R.size = i + 1) (hi1 : 1 ≤ i) (hi3 : i ≤ 3) (hb : 128 ≤ (R[i]'(by omega)).toNat) (w : World) :
    Calls Tryz.prog 191 #[.string ⟨#[32, 9, 10, 13]⟩, .int .i32 x] w fun e w' => e = .returned (.int .i64 (-1)) ∧ Below w.heap.size w w' := by
  have hs := valid_yes hv
  have HV : Hid (Calls Tryz.prog 208 #[.int .i32 x] w fun e w' => e = .returned (.bool true) ∧ w = w') := Lib.hid ((Tryz.utf8_ValidRune x w).mono fun e w' ⟨k1, k2⟩ => ⟨by rw [k1, hs], k2.symm⟩)
  have g1 : decide ((x : Int) < 128) = false := decide_eq_false (by omega)
  have g0 : decide ((0 : Int) ≤ (x : Int)) = true := decide_eq_true (by omega)
  have g2 : ((x : Int) == 65533) = false := by simp; omega
  obtain ⟨c, hc⟩ : ∃ c, R[i]'(by omega) = c := ⟨_, rfl⟩
  have hca : ∀ h, R[i]'h = c := fun _ => hc
  rw [hc] at hb
  have HB := Lib.hid hb
  obtain ⟨S, hS⟩ : ∃ S : ByteArray, (⟨#[32, 9, 10, 13]⟩ : ByteArray) = S := ⟨_, rfl⟩
  have hS4 : S.size = 4 := by rw [← hS]; rfl
  obtain ⟨d, hda, hd2⟩ : ∃ d : UInt8, (∀ h, S[i]'h = d) ∧ d.toNat < 128 := by
    refine ⟨S[i]'(by omega), fun _ => rfl, ?_⟩
    subst hS
    match i, hi1, hi3 with
    | 1, _, _ => show (9 : UInt8).toNat < 128; decide
    | 2, _, _ => show (10 : UInt8).toNat < 128; decide
    | 3, _, _ => show (13 : UInt8).toNat < 128; decide
  have g4 : ((d.toNat : Int) != (c.toNat : Int)) = true := by simp; omega
  obtain ⟨n, hsz⟩ : ∃ n, S.size = n := ⟨_, rfl⟩
  obtain ⟨m, hm⟩ : ∃ m, R.size = m := ⟨_, rfl⟩
  obtain ⟨j, hj⟩ : ∃ j, i + 1 = j := ⟨_, rfl⟩
  have hn : n = 4 := by omega
  have bi : (0 : Int) ≤ (i : Int) ∧ (i : Int) < (n : Int) := by omega
  have bm : (i : Int) < (m : Int) := by omega
  have bj : (0 : Int) ≤ (j : Int) ∧ (j : Int) ≤ (n : Int) := by omega
  have di : decide ((i : Int) < (n : Int)) = true := decide_eq_true (by omega)
  have s0 : IntKind.i64.wrap ((m : Int) - 1) = (i : Int) := by rw [IntWalk.i64_in _ (by omega)]; omega
  have s1 : IntKind.i64.wrap ((i : Int) + 1) = (j : Int) := by rw [IntWalk.i64_in _ (by omega)]; omega
  have s2 : ((j : Nat) : Int).toNat = j := by omega
  have s3 : ((i : Nat) : Int).toNat = i := by omega
  obtain ⟨T, hT⟩ : ∃ T : ByteArray, S.extract j n = T := ⟨_, rfl⟩
  have HI : Hid (Lib.indexByte T.data.toList c = -1) := Lib.hid (by
    have e : ((⟨#[32, 9, 10, 13]⟩ : ByteArray).extract j 4).data.toList = ([32, 9, 10, 13] : List UInt8).drop j := by
      rw [extract_l _ j 4 (Nat.le_refl _), List.take_of_length_le (by simp)]
    rw [← hT, ← hS, hn, e]
    exact four_no c HB.out j)
  rw [hS]
  clear h1 h3 hv hs hc hb hd2 hS hn hS4 hi hi1 hi3 hj
  go_enter Tryz.func191, Tryz.ntmps191
  go_wp2_with (first
    | (go_at_call 208; (with_reducible refine (HV.out).mono ?_); rintro e1 w1 ⟨rfl, rfl⟩)
    | fail)
  go_step3
  go_wp2_with fail
  refine wp_loop_rounds 1 ?_
  rw [rounds_succ]
  go_wp2_with fail
  go_step3
  go_wp2_with fail
  go_region
  go_wp2_with fail
  go_region_held3 (fun _ => True) (first | trivial | go_keep) ((first
    | (go_at_call 167; (with_reducible refine (sib9 T c (-1) _ HI.out).mono ?_); rintro e2 w2 ⟨rfl, rfl⟩)
    | fail))
  go_wp2_with fail
  (try simp only [Exit.inBlock, Exit.then, Exit.noGoto])
  go_ret
  exact ⟨rfl, (Below.refl _ _).drew.drew⟩
theorem irune_no (x : Nat) (hx : x ≤ 1114111) (h : 128 ≤ x) (w : World) :
    Calls Tryz.prog 191 #[.string ⟨#[32, 9, 10, 13]⟩, .int .i32 x] w fun e w' => e = .returned (.int .i64 (-1)) ∧ Below w.heap.size w w' := by
  by_cases h3 : x = 65533
  · subst h3; exact irune_err w
  by_cases hv : sv x = true
  · have hR := encode_eq x hv
    obtain ⟨l1, l2⟩ := enc_length x
    have hfar : ∀ c ∈ enc x, 128 ≤ c.toNat := enc_far x h hv
    have hlen : 2 ≤ (enc x).length := by
      unfold enc
      rw [if_neg (by omega)]
      split
      · simp
      · split <;> simp
    have hsz : (⟨(enc x).toArray⟩ : ByteArray).size = (enc x).length := by rw [← ba_l]
    refine irune_far x ⟨(enc x).toArray⟩ ((enc x).length - 1) h h3 hv hR (by omega) (by omega) (by omega) (hfar _ ?_) w
    have e := at_l (⟨(enc x).toArray⟩ : ByteArray) ((enc x).length - 1) (by omega)
    rw [← e]
    exact List.getElem_mem _
  · have : 55296 ≤ x ∧ x ≤ 57343 := by
      unfold sv at hv
      simp at hv
      omega
    exact irune_bad x this.1 this.2 w
set_option maxRecDepth 100000 in
theorem crune (x : Nat) (hx : x ≤ 1114111) (q : Bool) (hq : isSp x = q) (w : World) :
    Calls Tryz.prog 174 #[.string ⟨#[32, 9, 10, 13]⟩, .int .i32 x] w fun e w' => e = .returned (.bool q) ∧ Below w.heap.size w w' := by
  by_cases h : x < 128
  · refine (Tryz.strings_ContainsRune_ascii ⟨#[32, 9, 10, 13]⟩ x w (by omega) (by omega)).mono fun e w' ⟨k1, k2⟩ => ⟨?_, k2 ▸ Below.refl _ _⟩
    rw [k1, ← hq]
    congr 2
    obtain ⟨j, hj, hd⟩ := blk_index (UInt8.ofNat x)
    rw [show ((x : Int).toNat.toUInt8) = UInt8.ofNat x by simp, show (⟨#[32, 9, 10, 13]⟩ : ByteArray).data.toList = [32, 9, 10, 13] from rfl, hj, hd]
    have hn : (UInt8.ofNat x).toNat = x := by rw [UInt8.toNat_ofNat']; omega
    unfold blk isSp
    rw [Bool.eq_iff_iff]
    simp [← UInt8.toNat_inj, hn]
    omega
  · have HC := Lib.hid (irune_no x hx (by omega) w)
    obtain rfl : false = q := by rw [← hq]; unfold isSp; exact (decide_eq_false (by omega)).symm
    clear hq h hx
    go_enter Tryz.func174, Tryz.ntmps174
    go_wp2_with (first
      | (go_at_call 191; (with_reducible refine (HC.out).mono ?_); rintro e1 w1 ⟨rfl, hb1⟩)
      | fail)
    go_ret
    exact ⟨rfl, hb1⟩
set_option maxRecDepth 100000 in
theorem space9 (x : Nat) (hx : x ≤ 1114111) (w : World) :
    Calls Tryz.prog 185 #[.int .i32 x] w fun e w' => e = .returned (.int .i32 (spc x)) ∧ Below w.heap.size w w' := by
  obtain ⟨q, hq⟩ : ∃ q, isSp x = q := ⟨_, rfl⟩
  have HC := Lib.hid (crune x hx q hq w)
  cases q with
  | true =>
    have he : spc x = 32 := by unfold isSp at hq; unfold spc; rw [decide_eq_true_eq] at hq; rw [if_pos (by omega)]
    rw [he]
    clear hq he hx
    go_enter Tryz.func185, Tryz.ntmps185
    go_wp2_with (first
      | (go_at_call 174; (with_reducible refine (HC.out).mono ?_); rintro e1 w1 ⟨rfl, hb1⟩)
      | fail)
    go_ret
    exact ⟨rfl, hb1⟩
  | false =>
    have he : spc x = x := by unfold isSp at hq; unfold spc; rw [decide_eq_false_iff_not] at hq; rw [if_neg (by omega)]
    rw [he]
    clear hq he hx
    go_enter Tryz.func185, Tryz.ntmps185
    go_wp2_with (first
      | (go_at_call 174; (with_reducible refine (HC.out).mono ?_); rintro e1 w1 ⟨rfl, hb1⟩)
      | fail)
    go_ret
    exact ⟨rfl, hb1⟩
def sp8 (c : UInt8) : UInt8 := if blk c then 32 else c
theorem dec_at (n : Nat) (h : sv n = true) (r : List UInt8) : Lib.decodeL (enc n ++ r) = (n, (enc n).length) := by
  unfold Lib.decodeL
  have hl := (enc_length n).1
  rw [decode_eq _ 0 (by rw [← ba_l]; simp; omega)]
  simp [dec_enc n h r]
theorem mapD_sp : ∀ (ns : List Nat), mays ns → Lib.mapD spc (encs ns) = (encs ns).map sp8 := by
  intro ns
  induction ns with
  | nil => intro _; rfl
  | cons n ns ih =>
    intro hm
    rw [mays_cons] at hm
    have hv := nat_sv hm.1
    have hl := enc_length n
    have hne : enc n ++ encs ns ≠ [] := by
      intro e
      have := congrArg List.length e
      rw [List.length_append, List.length_nil] at this
      omega
    have hd := dec_at n hv (encs ns)
    rw [encs_cons, Lib.mapD_step spc _ hne, hd]
    dsimp only
    rw [List.drop_left, ih hm.2, List.map_append]
    congr 1
    by_cases hs : n = 32 ∨ n = 9 ∨ n = 10 ∨ n = 13
    · have e1 : spc (n : Int) = 32 := by unfold spc; rw [if_pos (by omega)]
      rw [e1, if_pos (by decide), enc_near (by omega)]
      rcases hs with rfl | rfl | rfl | rfl <;> rfl
    · have e1 : spc (n : Int) = n := by unfold spc; rw [if_neg (by omega)]
      have e2 := Lib.encode_decode (enc n ++ encs ns) hne (by
        rw [hd]
        rintro ⟨k1, k2⟩
        dsimp only at k1 k2
        subst k1
        revert k2
        decide)
      rw [hd] at e2
      dsimp only at e2
      rw [e1, if_pos (by omega), e2, List.take_left]
      refine (List.map_congr_left (g := id) fun c hc => ?_).trans (List.map_id _) |>.symm
      unfold sp8
      have : blk c = false := by
        by_cases h8 : n < 128
        · rw [enc_near h8, List.mem_singleton] at hc
          subst hc
          have hb : (bt n).toNat = n := bt_nat n (by omega)
          unfold blk
          simp [← UInt8.toNat_inj, hb]
          omega
        · have := enc_far n (by omega) hv c hc
          cases hb : blk c with
          | false => rfl
          | true => have := (blk_far hb).2.2.2.2.2.2.2; omega
      rw [this]
      rfl
/-- What the program finds laid: an error's variable, two tables. -/
structure Ev9 (w : World) : Prop where
  err : Ev w
  tab : Lib.Utf8Tabs 1 2 w
theorem Ev9.to {w w' : World} (h : Ev9 w) (hb : Below w.heap.size w w') : Ev9 w' := ⟨h.err.to hb, Utf8Tabs_below h.tab hb⟩
theorem Ev9.went {b : Nat} {s t : ByteArray} {w w' : World} (h : Ev9 w) (hr : Rd b s w) (hg : w.grownBy w' (some b)) : Ev9 w' := by
  have hc := hr.cell
  have keep : ∀ (a : Addr) v, w.cell? a = some v → (∀ s, v ≠ .string s) → a.off = 0 ∨ True → w'.cell? a = some v := by
    intro a v ha hv _
    refine hg.cell ha fun e => ?_
    have e2 : a.block = b := by injection e
    obtain ⟨ab, off, sp⟩ := a
    have hsp : sp = none := World.cell?_spot ha
    dsimp only at e2
    subst hsp e2
    rw [cellV w ab off _ _ _ hr] at ha
    cases off with
    | zero => simp at ha; exact hv s ha.symm
    | succ k => simp at ha
  obtain ⟨te, pe, he⟩ := h.err
  refine ⟨⟨te, pe, keep _ _ he (fun _ e => by cases e) (.inl rfl)⟩, fun c hc => keep _ _ (h.tab.1 c hc) (fun _ e => by cases e) (.inr trivial), fun i hi => ?_⟩
  exact ⟨keep _ _ (h.tab.2 i hi).1 (fun _ e => by cases e) (.inr trivial), keep _ _ (h.tab.2 i hi).2 (fun _ e => by cases e) (.inr trivial)⟩
theorem map9 (s t : ByteArray) (w : World) (hp : isP s.data.toList = true) (hs : s.size ≤ 1000000) (ht : t.data.toList = s.data.toList.map sp8) (hE : Ev9 w) :
    Calls Tryz.prog 184 #[.func (.func 185) #[] #[], .string s] w fun e w' => e = .returned (.string t) ∧ Below w.heap.size w w' := by
  obtain ⟨ns, hns, hm⟩ := isP_of hp
  refine (Tryz.strings_Map_grows 185 #[] (enters_of Tryz.func185 (by kernel_rfl) rfl) spc s w (by omega) (fun W x hx _ => space9 x hx W) (fun x hx => ?_) hE.tab).mono fun e w' ⟨k1, k2⟩ => ⟨?_, k2⟩
  · unfold spc
    split <;> omega
  · rw [k1, hns, mapD_sp ns hm, ← hns, ← ht]
end Hx
end Go.Proofs.YtbjgfaflikgobaaGreatDoor
namespace Go.Proofs.YtbjgfaflikgobaaGreatDoor
open Go.RowKit
namespace Hx
open Lx Tx Nmb Es
set_option linter.unusedVariables false
/-- The reader stands at a text. -/
structure At9 (b : Nat) (s : ByteArray) (w : World) : Prop where
  rd : Rd b s w
  ev : Ev9 w
  sz : s.size ≤ 16384
  tx : isP s.data.toList = true
theorem Went.heap {b k : Nat} {t : ByteArray} {w w' : World} {o : Obj} (h : Went b t w w') (hk : w.heap[k]? = some o) (hne : k ≠ b) : w'.heap[k]? = some o :=
  (h.gr.block k (Array.getElem?_eq_some_iff.1 hk).1 (fun e => hne (by injection e))).trans hk
theorem Went.ev {b : Nat} {s t : ByteArray} {w w' : World} (h : Went b t w w') (hr : Rd b s w) (hE : Ev9 w) : Ev9 w' := Ev9.went (t := t) hE hr h.gr
theorem At9.next {b : Nat} {s u : ByteArray} {w w' : World} (h : At9 b s w) (k : Went b u w w') (hp : isP u.data.toList = true) (hz : u.size ≤ 16384) : At9 b u w' := ⟨k.rd, k.ev h.rd h.ev, hz, hp⟩
theorem At9.alloc {b : Nat} {s : ByteArray} {w : World} (h : At9 b s w) (o : Obj) : At9 b s (w.alloc o) := ⟨h.rd.below (stpA (Below.refl _ _) o), h.ev.to (stpA (Below.refl _ _) o), h.sz, h.tx⟩
theorem At9.below {b : Nat} {s : ByteArray} {w w' : World} (h : At9 b s w) (hb : Below w.heap.size w w') : At9 b s w' := ⟨h.rd.below hb, h.ev.to hb, h.sz, h.tx⟩
theorem grown_setRow (w : World) (g : Nat) (cs : Array Value) {w0 : World} {b : Nat} (h : w0.grownBy w (some b)) (hg : w0.heap.size ≤ g) : w0.grownBy (w.setRow g cs) (some b) :=
  ⟨h.os, h.tape, h.output, by have := h.size; simpa [World.setRow] using this, fun k hk hne => (setRow_other w g k cs (by omega)).trans (h.block k hk hne)⟩
theorem Went.setRow {b : Nat} {t : ByteArray} {w w' : World} (h : Went b t w w') (g : Nat) (cs : Array Value) (hg : w.heap.size ≤ g) (hb : b < w.heap.size) : Went b t w (w'.setRow g cs) :=
  ⟨(setRow_other w' g b cs (by omega)).trans h.rd, grown_setRow _ _ _ h.gr hg⟩
theorem mk_l (l : List UInt8) : ∃ t : ByteArray, t.data.toList = l := ⟨⟨l.toArray⟩, by simp⟩
theorem size_l {t : ByteArray} {l : List UInt8} (h : t.data.toList = l) : t.size = l.length := by rw [← h, ba_l]
theorem isP_sp8 {l : List UInt8} (h : isP l = true) : isP (l.map sp8) = true := isP_map sp8 (fun c hc => by
    unfold sp8
    rw [if_neg]
    intro hb
    have := (blk_far hb).2.2.2.2.2.2.2
    omega) (fun c hc hm => by
    unfold sp8
    split
    · exact ⟨by decide, by decide⟩
    · exact ⟨hc, hm⟩) h
theorem toldL_sp8 (l : List UInt8) : toldL l = rd (l.map sp8) := rfl
theorem pre1 {l : List UInt8} {c : UInt8} (h : ∀ r, l ≠ c :: r) : ¬ [c] <+: l := by
  rintro ⟨r, e⟩
  exact h r e.symm
set_option maxHeartbeats 2000000 in
set_option maxRecDepth 100000 in
theorem value_34_open (b : Nat) (s s1 : ByteArray) (raw u : ByteArray) (w : World) (h : At9 b s w) (hs : s.data.toList = 34 :: s1.data.toList) (hraw : raw.data.toList = s1.data.toList.takeWhile (ne 34)) (hu : u.data.toList = s1.data.toList.dropWhile (ne 34)) (h0 : u.data.toList = []) :
    Calls Tryz.prog 168 #[.pointer (some ⟨b, 0, none⟩)] w fun e w' => e = Thrown 80 ∧ ∃ u, Went b u w w' := by
  have hz := size_l hs
  rw [List.length_cons, ba_l] at hz
  have hsz := h.sz
  have hr := h.rd
  have HT := Lib.hid (take_yes b s s1 ⟨#[34]⟩ w hr (by rw [hs]; rfl))
  have HU : Hid (∀ W, Rd b s1 W → Calls Tryz.prog 116 #[.pointer (some ⟨b, 0, none⟩), .string ⟨#[34]⟩] W fun e w' => e = .returned (.string raw) ∧ Went b u W w') := Lib.hid fun W hW => until_34 b s1 raw u W hW (by omega) hraw hu
  have HM2 : Hid (∀ W, Rd b u W → Calls Tryz.prog 143 #[.pointer (some ⟨b, 0, none⟩), .string ⟨#[34]⟩] W fun e w' => e = Thrown 80 ∧ Went b u W w') := Lib.hid fun W hW => must_no b u ⟨#[34]⟩ W hW (by rw [h0]; exact pre1 (fun r e => by cases e))
  unfold Thrown at HM2 ⊢
  clear h hs hz hsz hr hraw hu h0
  go_enter Tryz.func168, Tryz.ntmps168
  go_wp2_with (first
    | (go_at_call 112; (with_reducible refine (HT.out).mono ?_); rintro e1 w1 ⟨rfl, hw1⟩; have HW1 : Hid (Went b s1 w w1) := Lib.hid hw1; clear hw1)
    | (go_at_call 116; (with_reducible refine (HU.out w1 HW1.out.rd).mono ?_); rintro e2 w2 ⟨rfl, hw2⟩; have HW2 : Hid (Went b u w w2) := Lib.hid (HW1.out.trans hw2); clear hw2)
    | (go_at_call 143; (with_reducible refine (HM2.out w2 HW2.out.rd).mono ?_); rintro e3 w3 ⟨rfl, hw3⟩)
    | fail)
  (try simp only [Exit.inBlock, Exit.then])
  exact ⟨rfl, rfl, _, HW2.out.trans hw3⟩
set_option maxHeartbeats 2000000 in
set_option maxRecDepth 100000 in
theorem value_34_yes (b : Nat) (s s1 : ByteArray) (raw u y t v : ByteArray) (w : World) (h : At9 b s w) (hs : s.data.toList = 34 :: s1.data.toList) (hraw : raw.data.toList = s1.data.toList.takeWhile (ne 34)) (hu : u.data.toList = s1.data.toList.dropWhile (ne 34)) (hy : u.data.toList = 34 :: y.data.toList) (hp : isP raw.data.toList = true) (ht : t.data.toList = raw.data.toList.map sp8) (hv : rd t.data.toList = some v.data.toList) :
    Calls Tryz.prog 168 #[.pointer (some ⟨b, 0, none⟩)] w fun e w' => e = .returned (.string v) ∧ Went b y w w' := by
  have hz := size_l hs
  rw [List.length_cons, ba_l] at hz
  have hsz := h.sz
  have hr := h.rd
  have HT := Lib.hid (take_yes b s s1 ⟨#[34]⟩ w hr (by rw [hs]; rfl))
  have HU : Hid (∀ W, Rd b s1 W → Calls Tryz.prog 116 #[.pointer (some ⟨b, 0, none⟩), .string ⟨#[34]⟩] W fun e w' => e = .returned (.string raw) ∧ Went b u W w') := Lib.hid fun W hW => until_34 b s1 raw u W hW (by omega) hraw hu
  have hev := h.ev
  have hrs : raw.size ≤ 16384 := by
    have := congrArg List.length (tw_split (ne 34) s1.data.toList).1
    rw [List.length_append, ← hraw, ba_l, ba_l] at this
    omega
  have hts : t.size ≤ 16384 := by rw [size_l ht, List.length_map, ba_l]; exact hrs
  have htp : isP t.data.toList = true := by rw [ht]; exact isP_sp8 hp
  have HM2 : Hid (∀ W, Rd b u W → Calls Tryz.prog 143 #[.pointer (some ⟨b, 0, none⟩), .string ⟨#[34]⟩] W fun e w' => e = .returned (.tuple #[]) ∧ Went b y W w') := Lib.hid fun W hW => must_yes b u y ⟨#[34]⟩ W hW (by rw [hy]; rfl)
  have HMP : Hid (∀ W, Ev9 W → Calls Tryz.prog 184 #[.func (.func 185) #[] #[], .string raw] W fun e w' => e = .returned (.string t) ∧ Below W.heap.size W w') := Lib.hid fun W hW => map9 raw t W hp (by omega) ht hW
  have HPL : Hid (∀ W, Ev9 W → Calls Tryz.prog 115 #[.string t] W fun e w' => e = .returned (.string v) ∧ Below W.heap.size W w') := Lib.hid fun W hW => plain_yes t v W htp hts hv hW.err
  have HEV : Hid (∀ u W, Went b u w W → Ev9 W) := Lib.hid fun u W hW => hW.ev hr hev
  clear h hs hz hsz hr hraw hu hy hp ht hv hev hrs hts htp
  go_enter Tryz.func168, Tryz.ntmps168
  go_wp2_with (first
    | (go_at_call 112; (with_reducible refine (HT.out).mono ?_); rintro e1 w1 ⟨rfl, hw1⟩; have HW1 : Hid (Went b s1 w w1) := Lib.hid hw1; clear hw1)
    | (go_at_call 116; (with_reducible refine (HU.out w1 HW1.out.rd).mono ?_); rintro e2 w2 ⟨rfl, hw2⟩; have HW2 : Hid (Went b u w w2) := Lib.hid (HW1.out.trans hw2); clear hw2)
    | (go_at_call 143; (with_reducible refine (HM2.out w2 HW2.out.rd).mono ?_); rintro e3 w3 ⟨rfl, hw3⟩; have HW3 : Hid (Went b y w w3) := Lib.hid (HW2.out.trans hw3); clear hw3)
    | (go_at_call 184; (with_reducible refine (HMP.out w3 (HEV.out _ _ HW3.out)).mono ?_); rintro e4 w4 ⟨rfl, hb4⟩; have HW4 : Hid (Went b y w w4) := Lib.hid (HW3.out.then hb4); clear hb4)
    | (go_at_call 115; (with_reducible refine (HPL.out w4 (HEV.out _ _ HW4.out)).mono ?_); rintro e5 w5 ⟨rfl, hb5⟩)
    | fail)
  go_ret
  exact ⟨rfl, HW4.out.then hb5⟩
set_option maxHeartbeats 2000000 in
set_option maxRecDepth 100000 in
theorem value_34_bad (b : Nat) (s s1 : ByteArray) (raw u y t : ByteArray) (w : World) (h : At9 b s w) (hs : s.data.toList = 34 :: s1.data.toList) (hraw : raw.data.toList = s1.data.toList.takeWhile (ne 34)) (hu : u.data.toList = s1.data.toList.dropWhile (ne 34)) (hy : u.data.toList = 34 :: y.data.toList) (hp : isP raw.data.toList = true) (ht : t.data.toList = raw.data.toList.map sp8) (hv : rd t.data.toList = none) :
    Calls Tryz.prog 168 #[.pointer (some ⟨b, 0, none⟩)] w fun e w' => e = Thrown 80 ∧ ∃ u, Went b u w w' := by
  have hz := size_l hs
  rw [List.length_cons, ba_l] at hz
  have hsz := h.sz
  have hr := h.rd
  have HT := Lib.hid (take_yes b s s1 ⟨#[34]⟩ w hr (by rw [hs]; rfl))
  have HU : Hid (∀ W, Rd b s1 W → Calls Tryz.prog 116 #[.pointer (some ⟨b, 0, none⟩), .string ⟨#[34]⟩] W fun e w' => e = .returned (.string raw) ∧ Went b u W w') := Lib.hid fun W hW => until_34 b s1 raw u W hW (by omega) hraw hu
  have hev := h.ev
  have hrs : raw.size ≤ 16384 := by
    have := congrArg List.length (tw_split (ne 34) s1.data.toList).1
    rw [List.length_append, ← hraw, ba_l, ba_l] at this
    omega
  have hts : t.size ≤ 16384 := by rw [size_l ht, List.length_map, ba_l]; exact hrs
  have htp : isP t.data.toList = true := by rw [ht]; exact isP_sp8 hp
  have HM2 : Hid (∀ W, Rd b u W → Calls Tryz.prog 143 #[.pointer (some ⟨b, 0, none⟩), .string ⟨#[34]⟩] W fun e w' => e = .returned (.tuple #[]) ∧ Went b y W w') := Lib.hid fun W hW => must_yes b u y ⟨#[34]⟩ W hW (by rw [hy]; rfl)
  have HMP : Hid (∀ W, Ev9 W → Calls Tryz.prog 184 #[.func (.func 185) #[] #[], .string raw] W fun e w' => e = .returned (.string t) ∧ Below W.heap.size W w') := Lib.hid fun W hW => map9 raw t W hp (by omega) ht hW
  have HPL : Hid (∀ W, Ev9 W → Calls Tryz.prog 115 #[.string t] W fun e w' => e = Thrown 80 ∧ Below W.heap.size W w') := Lib.hid fun W hW => plain_no t W htp hts hv hW.err
  unfold Thrown at HPL ⊢
  have HEV : Hid (∀ u W, Went b u w W → Ev9 W) := Lib.hid fun u W hW => hW.ev hr hev
  clear h hs hz hsz hr hraw hu hy hp ht hv hev hrs hts htp
  go_enter Tryz.func168, Tryz.ntmps168
  go_wp2_with (first
    | (go_at_call 112; (with_reducible refine (HT.out).mono ?_); rintro e1 w1 ⟨rfl, hw1⟩; have HW1 : Hid (Went b s1 w w1) := Lib.hid hw1; clear hw1)
    | (go_at_call 116; (with_reducible refine (HU.out w1 HW1.out.rd).mono ?_); rintro e2 w2 ⟨rfl, hw2⟩; have HW2 : Hid (Went b u w w2) := Lib.hid (HW1.out.trans hw2); clear hw2)
    | (go_at_call 143; (with_reducible refine (HM2.out w2 HW2.out.rd).mono ?_); rintro e3 w3 ⟨rfl, hw3⟩; have HW3 : Hid (Went b y w w3) := Lib.hid (HW2.out.trans hw3); clear hw3)
    | (go_at_call 184; (with_reducible refine (HMP.out w3 (HEV.out _ _ HW3.out)).mono ?_); rintro e4 w4 ⟨rfl, hb4⟩; have HW4 : Hid (Went b y w w4) := Lib.hid (HW3.out.then hb4); clear hb4)
    | (go_at_call 115; (with_reducible refine (HPL.out w4 (HEV.out _ _ HW4.out)).mono ?_); rintro e5 w5 ⟨rfl, hb5⟩)
    | fail)
  (try simp only [Exit.inBlock, Exit.then])
  exact ⟨rfl, rfl, _, HW4.out.then hb5⟩
set_option maxHeartbeats 2000000 in
set_option maxRecDepth 100000 in
theorem value_39_open (b : Nat) (s s1 : ByteArray) (raw u : ByteArray) (w : World) (h : At9 b s w) (hs : s.data.toList = 39 :: s1.data.toList) (hraw : raw.data.toList = s1.data.toList.takeWhile (ne 39)) (hu : u.data.toList = s1.data.toList.dropWhile (ne 39)) (h0 : u.data.toList = []) :
    Calls Tryz.prog 168 #[.pointer (some ⟨b, 0, none⟩)] w fun e w' => e = Thrown 80 ∧ ∃ u, Went b u w w' := by
  have hz := size_l hs
  rw [List.length_cons, ba_l] at hz
  have hsz := h.sz
  have hr := h.rd
  have HT := Lib.hid (take_no b s ⟨#[34]⟩ w hr (by rw [hs]; exact pre1 (fun r e => by cases e)))
  have HM1 : Hid (∀ W, Rd b s W → Calls Tryz.prog 143 #[.pointer (some ⟨b, 0, none⟩), .string ⟨#[39]⟩] W fun e w' => e = .returned (.tuple #[]) ∧ Went b s1 W w') := Lib.hid fun W hW => must_yes b s s1 ⟨#[39]⟩ W hW (by rw [hs]; rfl)
  have HU : Hid (∀ W, Rd b s1 W → Calls Tryz.prog 116 #[.pointer (some ⟨b, 0, none⟩), .string ⟨#[39]⟩] W fun e w' => e = .returned (.string raw) ∧ Went b u W w') := Lib.hid fun W hW => until_39 b s1 raw u W hW (by omega) hraw hu
  have HM2 : Hid (∀ W, Rd b u W → Calls Tryz.prog 143 #[.pointer (some ⟨b, 0, none⟩), .string ⟨#[39]⟩] W fun e w' => e = Thrown 80 ∧ Went b u W w') := Lib.hid fun W hW => must_no b u ⟨#[39]⟩ W hW (by rw [h0]; exact pre1 (fun r e => by cases e))
  unfold Thrown at HM2 ⊢
  clear h hs hz hsz hr hraw hu h0
  have tok1 : True := trivial
  go_enter Tryz.func168, Tryz.ntmps168
  go_wp2_with (first
    | (go_at_call 112; (with_reducible refine (HT.out).mono ?_); rintro e0 w0 ⟨rfl, hw0⟩; have HW0 : Hid (Went b s w w0) := Lib.hid hw0; clear hw0)
    | (have _t := tok1; go_at_call 143; (with_reducible refine (HM1.out w0 HW0.out.rd).mono ?_); rintro e1 w1 ⟨rfl, hw1⟩; have HW1 : Hid (Went b s1 w w1) := Lib.hid (HW0.out.trans hw1); clear hw1; clear _t tok1)
    | (go_at_call 116; (with_reducible refine (HU.out w1 HW1.out.rd).mono ?_); rintro e2 w2 ⟨rfl, hw2⟩; have HW2 : Hid (Went b u w w2) := Lib.hid (HW1.out.trans hw2); clear hw2)
    | (go_at_call 143; (with_reducible refine (HM2.out w2 HW2.out.rd).mono ?_); rintro e3 w3 ⟨rfl, hw3⟩)
    | fail)
  (try simp only [Exit.inBlock, Exit.then])
  exact ⟨rfl, rfl, _, HW2.out.trans hw3⟩
set_option maxHeartbeats 2000000 in
set_option maxRecDepth 100000 in
theorem value_39_yes (b : Nat) (s s1 : ByteArray) (raw u y t v : ByteArray) (w : World) (h : At9 b s w) (hs : s.data.toList = 39 :: s1.data.toList) (hraw : raw.data.toList = s1.data.toList.takeWhile (ne 39)) (hu : u.data.toList = s1.data.toList.dropWhile (ne 39)) (hy : u.data.toList = 39 :: y.data.toList) (hp : isP raw.data.toList = true) (ht : t.data.toList = raw.data.toList.map sp8) (hv : rd t.data.toList = some v.data.toList) :
    Calls Tryz.prog 168 #[.pointer (some ⟨b, 0, none⟩)] w fun e w' => e = .returned (.string v) ∧ Went b y w w' := by
  have hz := size_l hs
  rw [List.length_cons, ba_l] at hz
  have hsz := h.sz
  have hr := h.rd
  have HT := Lib.hid (take_no b s ⟨#[34]⟩ w hr (by rw [hs]; exact pre1 (fun r e => by cases e)))
  have HM1 : Hid (∀ W, Rd b s W → Calls Tryz.prog 143 #[.pointer (some ⟨b, 0, none⟩), .string ⟨#[39]⟩] W fun e w' => e = .returned (.tuple #[]) ∧ Went b s1 W w') := Lib.hid fun W hW => must_yes b s s1 ⟨#[39]⟩ W hW (by rw [hs]; rfl)
  have HU : Hid (∀ W, Rd b s1 W → Calls Tryz.prog 116 #[.pointer (some ⟨b, 0, none⟩), .string ⟨#[39]⟩] W fun e w' => e = .returned (.string raw) ∧ Went b u W w') := Lib.hid fun W hW => until_39 b s1 raw u W hW (by omega) hraw hu
  have hev := h.ev
  have hrs : raw.size ≤ 16384 := by
    have := congrArg List.length (tw_split (ne 39) s1.data.toList).1
    rw [List.length_append, ← hraw, ba_l, ba_l] at this
    omega
  have hts : t.size ≤ 16384 := by rw [size_l ht, List.length_map, ba_l]; exact hrs
  have htp : isP t.data.toList = true := by rw [ht]; exact isP_sp8 hp
  have HM2 : Hid (∀ W, Rd b u W → Calls Tryz.prog 143 #[.pointer (some ⟨b, 0, none⟩), .string ⟨#[39]⟩] W fun e w' => e = .returned (.tuple #[]) ∧ Went b y W w') := Lib.hid fun W hW => must_yes b u y ⟨#[39]⟩ W hW (by rw [hy]; rfl)
  have HMP : Hid (∀ W, Ev9 W → Calls Tryz.prog 184 #[.func (.func 185) #[] #[], .string raw] W fun e w' => e = .returned (.string t) ∧ Below W.heap.size W w') := Lib.hid fun W hW => map9 raw t W hp (by omega) ht hW
  have HPL : Hid (∀ W, Ev9 W → Calls Tryz.prog 115 #[.string t] W fun e w' => e = .returned (.string v) ∧ Below W.heap.size W w') := Lib.hid fun W hW => plain_yes t v W htp hts hv hW.err
  have HEV : Hid (∀ u W, Went b u w W → Ev9 W) := Lib.hid fun u W hW => hW.ev hr hev
  clear h hs hz hsz hr hraw hu hy hp ht hv hev hrs hts htp
  have tok1 : True := trivial
  go_enter Tryz.func168, Tryz.ntmps168
  go_wp2_with (first
    | (go_at_call 112; (with_reducible refine (HT.out).mono ?_); rintro e0 w0 ⟨rfl, hw0⟩; have HW0 : Hid (Went b s w w0) := Lib.hid hw0; clear hw0)
    | (have _t := tok1; go_at_call 143; (with_reducible refine (HM1.out w0 HW0.out.rd).mono ?_); rintro e1 w1 ⟨rfl, hw1⟩; have HW1 : Hid (Went b s1 w w1) := Lib.hid (HW0.out.trans hw1); clear hw1; clear _t tok1)
    | (go_at_call 116; (with_reducible refine (HU.out w1 HW1.out.rd).mono ?_); rintro e2 w2 ⟨rfl, hw2⟩; have HW2 : Hid (Went b u w w2) := Lib.hid (HW1.out.trans hw2); clear hw2)
    | (go_at_call 143; (with_reducible refine (HM2.out w2 HW2.out.rd).mono ?_); rintro e3 w3 ⟨rfl, hw3⟩; have HW3 : Hid (Went b y w w3) := Lib.hid (HW2.out.trans hw3); clear hw3)
    | (go_at_call 184; (with_reducible refine (HMP.out w3 (HEV.out _ _ HW3.out)).mono ?_); rintro e4 w4 ⟨rfl, hb4⟩; have HW4 : Hid (Went b y w w4) := Lib.hid (HW3.out.then hb4); clear hb4)
    | (go_at_call 115; (with_reducible refine (HPL.out w4 (HEV.out _ _ HW4.out)).mono ?_); rintro e5 w5 ⟨rfl, hb5⟩)
    | fail)
  go_ret
  exact ⟨rfl, HW4.out.then hb5⟩
set_option maxHeartbeats 2000000 in
set_option maxRecDepth 100000 in
theorem value_39_bad (b : Nat) (s s1 : ByteArray) (raw u y t : ByteArray) (w : World) (h : At9 b s w) (hs : s.data.toList = 39 :: s1.data.toList) (hraw : raw.data.toList = s1.data.toList.takeWhile (ne 39)) (hu : u.data.toList = s1.data.toList.dropWhile (ne 39)) (hy : u.data.toList = 39 :: y.data.toList) (hp : isP raw.data.toList = true) (ht : t.data.toList = raw.data.toList.map sp8) (hv : rd t.data.toList = none) :
    Calls Tryz.prog 168 #[.pointer (some ⟨b, 0, none⟩)] w fun e w' => e = Thrown 80 ∧ ∃ u, Went b u w w' := by
  have hz := size_l hs
  rw [List.length_cons, ba_l] at hz
  have hsz := h.sz
  have hr := h.rd
  have HT := Lib.hid (take_no b s ⟨#[34]⟩ w hr (by rw [hs]; exact pre1 (fun r e => by cases e)))
  have HM1 : Hid (∀ W, Rd b s W → Calls Tryz.prog 143 #[.pointer (some ⟨b, 0, none⟩), .string ⟨#[39]⟩] W fun e w' => e = .returned (.tuple #[]) ∧ Went b s1 W w') := Lib.hid fun W hW => must_yes b s s1 ⟨#[39]⟩ W hW (by rw [hs]; rfl)
  have HU : Hid (∀ W, Rd b s1 W → Calls Tryz.prog 116 #[.pointer (some ⟨b, 0, none⟩), .string ⟨#[39]⟩] W fun e w' => e = .returned (.string raw) ∧ Went b u W w') := Lib.hid fun W hW => until_39 b s1 raw u W hW (by omega) hraw hu
  have hev := h.ev
  have hrs : raw.size ≤ 16384 := by
    have := congrArg List.length (tw_split (ne 39) s1.data.toList).1
    rw [List.length_append, ← hraw, ba_l, ba_l] at this
    omega
  have hts : t.size ≤ 16384 := by rw [size_l ht, List.length_map, ba_l]; exact hrs
  have htp : isP t.data.toList = true := by rw [ht]; exact isP_sp8 hp
  have HM2 : Hid (∀ W, Rd b u W → Calls Tryz.prog 143 #[.pointer (some ⟨b, 0, none⟩), .string ⟨#[39]⟩] W fun e w' => e = .returned (.tuple #[]) ∧ Went b y W w') := Lib.hid fun W hW => must_yes b u y ⟨#[39]⟩ W hW (by rw [hy]; rfl)
  have HMP : Hid (∀ W, Ev9 W → Calls Tryz.prog 184 #[.func (.func 185) #[] #[], .string raw] W fun e w' => e = .returned (.string t) ∧ Below W.heap.size W w') := Lib.hid fun W hW => map9 raw t W hp (by omega) ht hW
  have HPL : Hid (∀ W, Ev9 W → Calls Tryz.prog 115 #[.string t] W fun e w' => e = Thrown 80 ∧ Below W.heap.size W w') := Lib.hid fun W hW => plain_no t W htp hts hv hW.err
  unfold Thrown at HPL ⊢
  have HEV : Hid (∀ u W, Went b u w W → Ev9 W) := Lib.hid fun u W hW => hW.ev hr hev
  clear h hs hz hsz hr hraw hu hy hp ht hv hev hrs hts htp
  have tok1 : True := trivial
  go_enter Tryz.func168, Tryz.ntmps168
  go_wp2_with (first
    | (go_at_call 112; (with_reducible refine (HT.out).mono ?_); rintro e0 w0 ⟨rfl, hw0⟩; have HW0 : Hid (Went b s w w0) := Lib.hid hw0; clear hw0)
    | (have _t := tok1; go_at_call 143; (with_reducible refine (HM1.out w0 HW0.out.rd).mono ?_); rintro e1 w1 ⟨rfl, hw1⟩; have HW1 : Hid (Went b s1 w w1) := Lib.hid (HW0.out.trans hw1); clear hw1; clear _t tok1)
    | (go_at_call 116; (with_reducible refine (HU.out w1 HW1.out.rd).mono ?_); rintro e2 w2 ⟨rfl, hw2⟩; have HW2 : Hid (Went b u w w2) := Lib.hid (HW1.out.trans hw2); clear hw2)
    | (go_at_call 143; (with_reducible refine (HM2.out w2 HW2.out.rd).mono ?_); rintro e3 w3 ⟨rfl, hw3⟩; have HW3 : Hid (Went b y w w3) := Lib.hid (HW2.out.trans hw3); clear hw3)
    | (go_at_call 184; (with_reducible refine (HMP.out w3 (HEV.out _ _ HW3.out)).mono ?_); rintro e4 w4 ⟨rfl, hb4⟩; have HW4 : Hid (Went b y w w4) := Lib.hid (HW3.out.then hb4); clear hb4)
    | (go_at_call 115; (with_reducible refine (HPL.out w4 (HEV.out _ _ HW4.out)).mono ?_); rintro e5 w5 ⟨rfl, hb5⟩)
    | fail)
  (try simp only [Exit.inBlock, Exit.then])
  exact ⟨rfl, rfl, _, HW4.out.then hb5⟩
set_option maxHeartbeats 2000000 in
set_option maxRecDepth 100000 in
theorem value_other (b : Nat) (s : ByteArray) (w : World) (h : At9 b s w) (h1 : ∀ r, s.data.toList ≠ 34 :: r) (h2 : ∀ r, s.data.toList ≠ 39 :: r) :
    Calls Tryz.prog 168 #[.pointer (some ⟨b, 0, none⟩)] w fun e w' => e = Thrown 80 ∧ ∃ u, Went b u w w' := by
  have HT := Lib.hid (take_no b s ⟨#[34]⟩ w h.rd (pre1 h1))
  have HM1 : Hid (∀ W, Rd b s W → Calls Tryz.prog 143 #[.pointer (some ⟨b, 0, none⟩), .string ⟨#[39]⟩] W fun e w' => e = Thrown 80 ∧ Went b s W w') := Lib.hid fun W hW => must_no b s ⟨#[39]⟩ W hW (pre1 h2)
  unfold Thrown at HM1 ⊢
  clear h h1 h2
  go_enter Tryz.func168, Tryz.ntmps168
  go_wp2_with (first
    | (go_at_call 112; (with_reducible refine (HT.out).mono ?_); rintro e0 w0 ⟨rfl, hw0⟩; have HW0 : Hid (Went b s w w0) := Lib.hid hw0; clear hw0)
    | (go_at_call 143; (with_reducible refine (HM1.out w0 HW0.out.rd).mono ?_); rintro e1 w1 ⟨rfl, hw1⟩)
    | fail)
  (try simp only [Exit.inBlock, Exit.then])
  exact ⟨rfl, rfl, _, HW0.out.trans hw1⟩
theorem valL_cons (q : UInt8) (r : List UInt8) (hq : q = 34 ∨ q = 39) : valL (q :: r) = match r.dropWhile (ne q) with | [] => none | _ :: y => (toldL (r.takeWhile (ne q))).map fun v => (v, y) := by
  show (if q = 34 ∨ q = 39 then (match cutQ q r with | none => none | some (raw, y) => (toldL raw).map fun v => (v, y)) else none) = _
  rw [if_pos hq, cutQ_ne]
  cases r.dropWhile (ne q) <;> rfl
theorem ne_head {q d : UInt8} {r y : List UInt8} (h : r.dropWhile (ne q) = d :: y) : d = q := by
  have := (tw_split (ne q) r).2.2 d y h
  unfold ne at this
  simpa using this
/-- What value does. -/
theorem value_some (b : Nat) (s v y : ByteArray) (w : World) (h : At9 b s w) (hv : valL s.data.toList = some (v.data.toList, y.data.toList)) :
    Calls Tryz.prog 168 #[.pointer (some ⟨b, 0, none⟩)] w fun e w' => e = .returned (.string v) ∧ Went b y w w' := by
  have hp := h.tx
  cases hs : s.data.toList with
  | nil => rw [hs] at hv; cases hv
  | cons q r =>
    rw [hs] at hv hp
    have hq : q = 34 ∨ q = 39 := by
      by_cases hq : q = 34 ∨ q = 39
      · exact hq
      · have : valL (q :: r) = none := by show (if q = 34 ∨ q = 39 then _ else none) = none; rw [if_neg hq]
        rw [this] at hv; cases hv
    rw [valL_cons q r hq] at hv
    obtain ⟨s1, hs1⟩ := mk_l r
    subst hs1
    obtain ⟨raw, hraw⟩ := mk_l (s1.data.toList.takeWhile (ne q))
    obtain ⟨u, hu⟩ := mk_l (s1.data.toList.dropWhile (ne q))
    obtain ⟨t, ht⟩ := mk_l (raw.data.toList.map sp8)
    have hpp := isP_behind (g := [q]) (l := s1.data.toList) hp (by intro c hc; rw [List.mem_singleton] at hc; subst hc; exact q_low hq)
    cases hd : s1.data.toList.dropWhile (ne q) with
    | nil => rw [hd] at hv; cases hv
    | cons d y' =>
      obtain rfl := ne_head hd
      rw [hd] at hv
      dsimp only at hv
      have hsp := (tw_split (ne d) s1.data.toList).1
      rw [hd] at hsp
      rw [hsp] at hpp
      have hpr := (isP_split hpp (q_low hq)).1
      rw [← hraw] at hpr hv
      rw [toldL_sp8, ← ht] at hv
      cases hr : rd t.data.toList with
      | none => rw [hr] at hv; cases hv
      | some x =>
        rw [hr] at hv
        obtain ⟨e1, e2⟩ := (Prod.mk.injEq _ _ _ _).mp (Option.some.inj hv)
        rw [e1] at hr
        have hy : u.data.toList = d :: y.data.toList := by rw [hu, hd, e2]
        rcases hq with rfl | rfl
        · exact value_34_yes b s s1 raw u y t v w h hs hraw hu hy hpr ht hr
        · exact value_39_yes b s s1 raw u y t v w h hs hraw hu hy hpr ht hr
theorem value_none (b : Nat) (s : ByteArray) (w : World) (h : At9 b s w) (hv : valL s.data.toList = none) :
    Calls Tryz.prog 168 #[.pointer (some ⟨b, 0, none⟩)] w fun e w' => e = Thrown 80 ∧ ∃ u, Went b u w w' := by
  have hp := h.tx
  by_cases hq : ∃ q r, s.data.toList = q :: r ∧ (q = 34 ∨ q = 39)
  · obtain ⟨q, r, hs, hq⟩ := hq
    rw [hs] at hv hp
    rw [valL_cons q r hq] at hv
    obtain ⟨s1, hs1⟩ := mk_l r
    subst hs1
    obtain ⟨raw, hraw⟩ := mk_l (s1.data.toList.takeWhile (ne q))
    obtain ⟨u, hu⟩ := mk_l (s1.data.toList.dropWhile (ne q))
    obtain ⟨t, ht⟩ := mk_l (raw.data.toList.map sp8)
    have hpp := isP_behind (g := [q]) (l := s1.data.toList) hp (by intro c hc; rw [List.mem_singleton] at hc; subst hc; exact q_low hq)
    cases hd : s1.data.toList.dropWhile (ne q) with
    | nil =>
      rcases hq with rfl | rfl
      · exact value_34_open b s s1 raw u w h hs hraw hu (hu.trans hd)
      · exact value_39_open b s s1 raw u w h hs hraw hu (hu.trans hd)
    | cons d y' =>
      obtain rfl := ne_head hd
      rw [hd] at hv
      dsimp only at hv
      have hsp := (tw_split (ne d) s1.data.toList).1
      rw [hd] at hsp
      rw [hsp] at hpp
      have hpr := (isP_split hpp (q_low hq)).1
      rw [← hraw] at hpr hv
      rw [toldL_sp8, ← ht] at hv
      have hr : rd t.data.toList = none := by
        cases hr : rd t.data.toList with
        | none => rfl
        | some x => rw [hr] at hv; cases hv
      obtain ⟨y, hy⟩ := mk_l y'
      have hy2 : u.data.toList = d :: y.data.toList := by rw [hu, hd, hy]
      rcases hq with rfl | rfl
      · exact value_34_bad b s s1 raw u y t w h hs hraw hu hy2 hpr ht hr
      · exact value_39_bad b s s1 raw u y t w h hs hraw hu hy2 hpr ht hr
  · exact value_other b s w h (fun r e => hq ⟨34, r, e, .inl rfl⟩) (fun r e => hq ⟨39, r, e, .inr rfl⟩)
end Hx
end Go.Proofs.YtbjgfaflikgobaaGreatDoor
namespace Go.Proofs.YtbjgfaflikgobaaGreatDoor
open Go.RowKit
namespace Hx
open Lx Tx Nmb Es
set_option linter.unusedVariables false
theorem beh_w {l : List UInt8} (h : isP l = true) : isP (l.dropWhile wch) = true := by
  have e := (tw_split wch l).1
  rw [e] at h
  exact isP_behind h fun c hc => wch_low ((tw_split wch l).2.1 c hc)
theorem beh_b {l : List UInt8} (h : isP l = true) : isP (l.dropWhile blk) = true := by
  have e := (tw_split blk l).1
  rw [e] at h
  exact isP_behind h fun c hc => blk_low ((tw_split blk l).2.1 c hc)
theorem beh_1 {c : UInt8} {l : List UInt8} (h : isP (c :: l) = true) (hc : c.toNat < 128) : isP l = true := isP_behind (g := [c]) h (by intro d hd; rw [List.mem_singleton] at hd; subst hd; exact hc)
theorem attrL_steps {l : List UInt8} (hf : fullL (l.takeWhile wch) = true) : attrL l = match (l.dropWhile wch).dropWhile blk with
    | [] => none
    | c :: r => if c = 61 then (valL (r.dropWhile blk)).map fun p => (⟨l.takeWhile wch, p.1⟩, p.2) else none := by
  obtain ⟨h1, h2, h3⟩ := (wordL_of l).1 hf
  unfold attrL
  rw [if_neg h2, h3, h1]
  rfl
theorem attrL_nofull {l : List UInt8} (hf : fullL (l.takeWhile wch) = false) : attrL l = none := by
  unfold attrL
  rw [if_pos ((wordL_of l).2 hf)]
theorem shutL_steps {l : List UInt8} (hf : fullL (l.takeWhile wch) = true) : shutL l = match (l.dropWhile wch).dropWhile blk with
    | [] => none
    | c :: r => if c = 62 then some (⟨2, l.takeWhile wch, [], []⟩, r) else none := by
  obtain ⟨h1, h2, h3⟩ := (wordL_of l).1 hf
  unfold shutL
  rw [if_neg h2, h3, h1]
  rfl
theorem shutL_nofull {l : List UInt8} (hf : fullL (l.takeWhile wch) = false) : shutL l = none := by
  unfold shutL
  rw [if_pos ((wordL_of l).2 hf)]
set_option maxHeartbeats 2000000 in
set_option maxRecDepth 100000 in
theorem attr_yes (b : Nat) (s t u1 u2 : ByteArray) (u3 u4 v y : ByteArray) (w : World) (h : At9 b s w) (ht : t.data.toList = s.data.toList.takeWhile wch) (hu1 : u1.data.toList = s.data.toList.dropWhile wch) (hf : fullL (s.data.toList.takeWhile wch) = true) (hu2 : u2.data.toList = u1.data.toList.dropWhile blk) (hu3 : u2.data.toList = 61 :: u3.data.toList) (hu4 : u4.data.toList = u3.data.toList.dropWhile blk) (hv : valL u4.data.toList = some (v.data.toList, y.data.toList)) :
    Calls Tryz.prog 144 #[.pointer (some ⟨b, 0, none⟩)] w fun e w' => e = .returned (.agg #[.string t, .string v]) ∧ Went b y w w' := by
  have hz1 : u1.size ≤ s.size := by have := dropWhile_len wch s.data.toList; rw [← hu1, ba_l, ba_l] at this; exact this
  have hz2 : u2.size ≤ u1.size := by have := dropWhile_len blk u1.data.toList; rw [← hu2, ba_l, ba_l] at this; exact this
  have hsz := h.sz
  have hgb : w.heap.size ≠ b := Nat.ne_of_gt h.rd.lt
  have hp2 : isP u2.data.toList = true := by rw [hu2, hu1]; exact beh_b (beh_w h.tx)
  have HF : Hid (∀ o, Calls Tryz.prog 141 #[.pointer (some ⟨b, 0, none⟩)] (w.alloc o) fun e w' => e = .returned (.string t) ∧ Went b u1 (w.alloc o) w') := Lib.hid fun o => full_yes b s t u1 (w.alloc o) (h.alloc o).rd (by omega) ht hu1 (ht ▸ hf)
  have HB1 : Hid (∀ W, Rd b u1 W → Calls Tryz.prog 142 #[.pointer (some ⟨b, 0, none⟩)] W fun e w' => (∃ q, e = .returned (.bool q)) ∧ Went b u2 W w') := Lib.hid fun W hW => blank9_ b u1 u2 W hW (by omega) hu2
  have hz3 : u3.size + 1 = u2.size := by have := size_l hu3; rw [List.length_cons, ba_l] at this; omega
  have hz4 : u4.size ≤ u3.size := by have := dropWhile_len blk u3.data.toList; rw [← hu4, ba_l, ba_l] at this; exact this
  have hp3 : isP u3.data.toList = true := by rw [hu3] at hp2; exact beh_1 hp2 (by decide)
  have HP4 : Hid (isP u4.data.toList = true) := Lib.hid (by rw [hu4]; exact beh_b hp3)
  have HZ4 : Hid (u4.size ≤ 16384) := Lib.hid (by omega)
  have HM : Hid (∀ W, Rd b u2 W → Calls Tryz.prog 143 #[.pointer (some ⟨b, 0, none⟩), .string ⟨#[61]⟩] W fun e w' => e = .returned (.tuple #[]) ∧ Went b u3 W w') := Lib.hid fun W hW => must_yes b u2 u3 ⟨#[61]⟩ W hW (by rw [hu3]; rfl)
  have HB2 : Hid (∀ W, Rd b u3 W → Calls Tryz.prog 142 #[.pointer (some ⟨b, 0, none⟩)] W fun e w' => (∃ q, e = .returned (.bool q)) ∧ Went b u4 W w') := Lib.hid fun W hW => blank9_ b u3 u4 W hW (by omega) hu4
  have HA : Hid (At9 b s (w.alloc (.cells zPr 119))) := Lib.hid (h.alloc _)
  have HGB := Lib.hid hgb
  have HBT : Hid (b < w.heap.size) := h.rd.lt
  have HV : Hid (∀ W, At9 b u4 W → Calls Tryz.prog 168 #[.pointer (some ⟨b, 0, none⟩)] W fun e w' => e = .returned (.string v) ∧ Went b y W w') := Lib.hid fun W hW => value_some b u4 v y W hW hv
  clear h ht hu1 hf hu2 hz1 hz2 hsz hgb hp2 hu3 hu4 hv hz3 hz4 hp3
  have tok1 : True := trivial
  go_enter Tryz.func144, Tryz.ntmps144
  go_wp2_with (first
    | (go_at_call 141; (with_reducible refine (HF.out _).mono ?_); rintro e1 w1 ⟨rfl, hw1⟩; have HW1 : Hid (Went b u1 (w.alloc (.cells zPr 119)) w1) := Lib.hid hw1; clear hw1)
    | (have _t := tok1; go_at_call 142; (with_reducible refine (HB1.out w1 HW1.out.rd).mono ?_); rintro e2 w2 ⟨⟨q2, rfl⟩, hw2⟩; have HW2 : Hid (Went b u2 (w.alloc (.cells zPr 119)) w2) := Lib.hid (HW1.out.trans hw2); clear hw2; clear _t tok1)
    | (go_at_call 143; (with_reducible refine (HM.out w2 HW2.out.rd).mono ?_); rintro e3 w3 ⟨rfl, hw3⟩; have HW3 : Hid (Went b u3 (w.alloc (.cells zPr 119)) w3) := Lib.hid (HW2.out.trans hw3); clear hw3)
    | (go_at_call 142; (with_reducible refine (HB2.out w3 HW3.out.rd).mono ?_); rintro e4 w4 ⟨⟨q4, rfl⟩, hw4⟩; have HW4 : Hid (Went b u4 (w.alloc (.cells zPr 119)) w4) := Lib.hid (HW3.out.trans hw4); clear hw4)
    | (go_at_call 168; (with_reducible refine (HV.out w4 (HA.out.next HW4.out HP4.out HZ4.out)).mono ?_); rintro e5 w5 ⟨rfl, hw5⟩; have HW5 : Hid (Went b y (w.alloc (.cells zPr 119)) w5) := Lib.hid (HW4.out.trans hw5); have HG5 := Lib.hid (HW5.out.heap (heap_alloc_new w (.cells zPr 119)) HGB.out); clear hw5)
    | (refine wpList_store_row rfl _ _ _ rfl w.heap.size #[.string t, .string v] rfl rfl 119 zPr HG5.out sizePr rfl (onePr _ _) ?_)
    | fail)
  exact bodyPost_ret (v := .agg #[.string t, .string v]) (results_cell_row rfl _ _ _ _ _ _ _ rfl (setRow_heap _ _ _ #[.string t, .string v] _ _ HG5.out) Tryz.underlying119 rfl sizePr) rfl ⟨rfl, (Went.after (stpA (Below.refl _ _) _) HW5.out).setRow _ _ (Nat.le_refl _) HBT.out⟩
set_option maxHeartbeats 2000000 in
set_option maxRecDepth 100000 in
theorem attr_val (b : Nat) (s t u1 u2 : ByteArray) (u3 u4 : ByteArray) (w : World) (h : At9 b s w) (ht : t.data.toList = s.data.toList.takeWhile wch) (hu1 : u1.data.toList = s.data.toList.dropWhile wch) (hf : fullL (s.data.toList.takeWhile wch) = true) (hu2 : u2.data.toList = u1.data.toList.dropWhile blk) (hu3 : u2.data.toList = 61 :: u3.data.toList) (hu4 : u4.data.toList = u3.data.toList.dropWhile blk) (hv : valL u4.data.toList = none) :
    Calls Tryz.prog 144 #[.pointer (some ⟨b, 0, none⟩)] w fun e w' => e = Thrown 80 ∧ ∃ u, Went b u w w' := by
  have hz1 : u1.size ≤ s.size := by have := dropWhile_len wch s.data.toList; rw [← hu1, ba_l, ba_l] at this; exact this
  have hz2 : u2.size ≤ u1.size := by have := dropWhile_len blk u1.data.toList; rw [← hu2, ba_l, ba_l] at this; exact this
  have hsz := h.sz
  have hgb : w.heap.size ≠ b := Nat.ne_of_gt h.rd.lt
  have hp2 : isP u2.data.toList = true := by rw [hu2, hu1]; exact beh_b (beh_w h.tx)
  have HF : Hid (∀ o, Calls Tryz.prog 141 #[.pointer (some ⟨b, 0, none⟩)] (w.alloc o) fun e w' => e = .returned (.string t) ∧ Went b u1 (w.alloc o) w') := Lib.hid fun o => full_yes b s t u1 (w.alloc o) (h.alloc o).rd (by omega) ht hu1 (ht ▸ hf)
  have HB1 : Hid (∀ W, Rd b u1 W → Calls Tryz.prog 142 #[.pointer (some ⟨b, 0, none⟩)] W fun e w' => (∃ q, e = .returned (.bool q)) ∧ Went b u2 W w') := Lib.hid fun W hW => blank9_ b u1 u2 W hW (by omega) hu2
  have hz3 : u3.size + 1 = u2.size := by have := size_l hu3; rw [List.length_cons, ba_l] at this; omega
  have hz4 : u4.size ≤ u3.size := by have := dropWhile_len blk u3.data.toList; rw [← hu4, ba_l, ba_l] at this; exact this
  have hp3 : isP u3.data.toList = true := by rw [hu3] at hp2; exact beh_1 hp2 (by decide)
  have HP4 : Hid (isP u4.data.toList = true) := Lib.hid (by rw [hu4]; exact beh_b hp3)
  have HZ4 : Hid (u4.size ≤ 16384) := Lib.hid (by omega)
  have HM : Hid (∀ W, Rd b u2 W → Calls Tryz.prog 143 #[.pointer (some ⟨b, 0, none⟩), .string ⟨#[61]⟩] W fun e w' => e = .returned (.tuple #[]) ∧ Went b u3 W w') := Lib.hid fun W hW => must_yes b u2 u3 ⟨#[61]⟩ W hW (by rw [hu3]; rfl)
  have HB2 : Hid (∀ W, Rd b u3 W → Calls Tryz.prog 142 #[.pointer (some ⟨b, 0, none⟩)] W fun e w' => (∃ q, e = .returned (.bool q)) ∧ Went b u4 W w') := Lib.hid fun W hW => blank9_ b u3 u4 W hW (by omega) hu4
  have HA : Hid (At9 b s (w.alloc (.cells zPr 119))) := Lib.hid (h.alloc _)
  have HGB := Lib.hid hgb
  have HV : Hid (∀ W, At9 b u4 W → Calls Tryz.prog 168 #[.pointer (some ⟨b, 0, none⟩)] W fun e w' => e = Thrown 80 ∧ ∃ u, Went b u W w') := Lib.hid fun W hW => value_none b u4 W hW hv
  unfold Thrown at HV ⊢
  clear h ht hu1 hf hu2 hz1 hz2 hsz hgb hp2 hu3 hu4 hv hz3 hz4 hp3
  have tok1 : True := trivial
  go_enter Tryz.func144, Tryz.ntmps144
  go_wp2_with (first
    | (go_at_call 141; (with_reducible refine (HF.out _).mono ?_); rintro e1 w1 ⟨rfl, hw1⟩; have HW1 : Hid (Went b u1 (w.alloc (.cells zPr 119)) w1) := Lib.hid hw1; clear hw1)
    | (have _t := tok1; go_at_call 142; (with_reducible refine (HB1.out w1 HW1.out.rd).mono ?_); rintro e2 w2 ⟨⟨q2, rfl⟩, hw2⟩; have HW2 : Hid (Went b u2 (w.alloc (.cells zPr 119)) w2) := Lib.hid (HW1.out.trans hw2); clear hw2; clear _t tok1)
    | (go_at_call 143; (with_reducible refine (HM.out w2 HW2.out.rd).mono ?_); rintro e3 w3 ⟨rfl, hw3⟩; have HW3 : Hid (Went b u3 (w.alloc (.cells zPr 119)) w3) := Lib.hid (HW2.out.trans hw3); clear hw3)
    | (go_at_call 142; (with_reducible refine (HB2.out w3 HW3.out.rd).mono ?_); rintro e4 w4 ⟨⟨q4, rfl⟩, hw4⟩; have HW4 : Hid (Went b u4 (w.alloc (.cells zPr 119)) w4) := Lib.hid (HW3.out.trans hw4); clear hw4)
    | (go_at_call 168; (with_reducible refine (HV.out w4 (HA.out.next HW4.out HP4.out HZ4.out)).mono ?_); rintro e5 w5 ⟨rfl, u5, hw5⟩)
    | fail)
  (try simp only [Exit.inBlock, Exit.then])
  exact ⟨rfl, rfl, _, Went.after (stpA (Below.refl _ _) _) (HW4.out.trans hw5)⟩
set_option maxHeartbeats 2000000 in
set_option maxRecDepth 100000 in
theorem attr_eq (b : Nat) (s t u1 u2 : ByteArray)  (w : World) (h : At9 b s w) (ht : t.data.toList = s.data.toList.takeWhile wch) (hu1 : u1.data.toList = s.data.toList.dropWhile wch) (hf : fullL (s.data.toList.takeWhile wch) = true) (hu2 : u2.data.toList = u1.data.toList.dropWhile blk) (hu3 : ∀ r, u2.data.toList ≠ 61 :: r) :
    Calls Tryz.prog 144 #[.pointer (some ⟨b, 0, none⟩)] w fun e w' => e = Thrown 80 ∧ ∃ u, Went b u w w' := by
  have hz1 : u1.size ≤ s.size := by have := dropWhile_len wch s.data.toList; rw [← hu1, ba_l, ba_l] at this; exact this
  have hz2 : u2.size ≤ u1.size := by have := dropWhile_len blk u1.data.toList; rw [← hu2, ba_l, ba_l] at this; exact this
  have hsz := h.sz
  have hgb : w.heap.size ≠ b := Nat.ne_of_gt h.rd.lt
  have hp2 : isP u2.data.toList = true := by rw [hu2, hu1]; exact beh_b (beh_w h.tx)
  have HF : Hid (∀ o, Calls Tryz.prog 141 #[.pointer (some ⟨b, 0, none⟩)] (w.alloc o) fun e w' => e = .returned (.string t) ∧ Went b u1 (w.alloc o) w') := Lib.hid fun o => full_yes b s t u1 (w.alloc o) (h.alloc o).rd (by omega) ht hu1 (ht ▸ hf)
  have HB1 : Hid (∀ W, Rd b u1 W → Calls Tryz.prog 142 #[.pointer (some ⟨b, 0, none⟩)] W fun e w' => (∃ q, e = .returned (.bool q)) ∧ Went b u2 W w') := Lib.hid fun W hW => blank9_ b u1 u2 W hW (by omega) hu2
  have HM : Hid (∀ W, Rd b u2 W → Calls Tryz.prog 143 #[.pointer (some ⟨b, 0, none⟩), .string ⟨#[61]⟩] W fun e w' => e = Thrown 80 ∧ Went b u2 W w') := Lib.hid fun W hW => must_no b u2 ⟨#[61]⟩ W hW (pre1 hu3)
  unfold Thrown at HM ⊢
  clear h ht hu1 hf hu2 hz1 hz2 hsz hgb hp2 hu3
  have tok1 : True := trivial
  go_enter Tryz.func144, Tryz.ntmps144
  go_wp2_with (first
    | (go_at_call 141; (with_reducible refine (HF.out _).mono ?_); rintro e1 w1 ⟨rfl, hw1⟩; have HW1 : Hid (Went b u1 (w.alloc (.cells zPr 119)) w1) := Lib.hid hw1; clear hw1)
    | (have _t := tok1; go_at_call 142; (with_reducible refine (HB1.out w1 HW1.out.rd).mono ?_); rintro e2 w2 ⟨⟨q2, rfl⟩, hw2⟩; have HW2 : Hid (Went b u2 (w.alloc (.cells zPr 119)) w2) := Lib.hid (HW1.out.trans hw2); clear hw2; clear _t tok1)
    | (go_at_call 143; (with_reducible refine (HM.out w2 HW2.out.rd).mono ?_); rintro e3 w3 ⟨rfl, hw3⟩)
    | fail)
  (try simp only [Exit.inBlock, Exit.then])
  exact ⟨rfl, rfl, _, Went.after (stpA (Below.refl _ _) _) (HW2.out.trans hw3)⟩
set_option maxHeartbeats 2000000 in
set_option maxRecDepth 100000 in
theorem attr_word (b : Nat) (s : ByteArray) (w : World) (h : At9 b s w) (hf : fullL (s.data.toList.takeWhile wch) = false) :
    Calls Tryz.prog 144 #[.pointer (some ⟨b, 0, none⟩)] w fun e w' => e = Thrown 80 ∧ ∃ u, Went b u w w' := by
  have hsz := h.sz
  have HF : Hid (∀ o, Calls Tryz.prog 141 #[.pointer (some ⟨b, 0, none⟩)] (w.alloc o) fun e w' => e = Thrown 80 ∧ ∃ u, Went b u (w.alloc o) w') := Lib.hid fun o => full_no b s (w.alloc o) (h.alloc o).rd (by omega) hf
  unfold Thrown at HF ⊢
  clear h hf hsz
  go_enter Tryz.func144, Tryz.ntmps144
  go_wp2_with (first
    | (go_at_call 141; (with_reducible refine (HF.out _).mono ?_); rintro e1 w1 ⟨rfl, u1, hw1⟩)
    | fail)
  (try simp only [Exit.inBlock, Exit.then])
  exact ⟨rfl, rfl, _, Went.after (stpA (Below.refl _ _) _) hw1⟩
/-- What attribute does. -/
theorem attr_some (b : Nat) (s nm v y : ByteArray) (w : World) (h : At9 b s w) (ha : attrL s.data.toList = some (⟨nm.data.toList, v.data.toList⟩, y.data.toList)) :
    Calls Tryz.prog 144 #[.pointer (some ⟨b, 0, none⟩)] w fun e w' => e = .returned (.agg #[.string nm, .string v]) ∧ Went b y w w' := by
  cases hf : fullL (s.data.toList.takeWhile wch) with
  | false => rw [attrL_nofull hf] at ha; cases ha
  | true =>
    rw [attrL_steps hf] at ha
    obtain ⟨t, ht⟩ := mk_l (s.data.toList.takeWhile wch)
    obtain ⟨u1, hu1⟩ := mk_l (s.data.toList.dropWhile wch)
    obtain ⟨u2, hu2⟩ := mk_l (u1.data.toList.dropWhile blk)
    rw [← hu1, ← hu2] at ha
    cases h2 : u2.data.toList with
    | nil => rw [h2] at ha; cases ha
    | cons c r =>
      rw [h2] at ha
      dsimp only at ha
      by_cases hc : c = 61
      · subst hc
        rw [if_pos rfl] at ha
        obtain ⟨u3, hu3⟩ := mk_l r
        obtain ⟨u4, hu4⟩ := mk_l (u3.data.toList.dropWhile blk)
        rw [← hu3, ← hu4] at ha
        cases hv : valL u4.data.toList with
        | none => rw [hv] at ha; cases ha
        | some p =>
          rw [hv] at ha
          obtain ⟨e1, e2⟩ := (Prod.mk.injEq _ _ _ _).mp (Option.some.inj ha)
          injection e1 with e3 e4
          rw [← ht] at e3
          obtain rfl := ba_x e3
          exact attr_yes b s t u1 u2 u3 u4 v y w h ht hu1 hf hu2 (by rw [h2, hu3]) hu4 (by rw [hv, ← e4, ← e2])
      · rw [if_neg hc] at ha; cases ha
theorem attr_none (b : Nat) (s : ByteArray) (w : World) (h : At9 b s w) (ha : attrL s.data.toList = none) :
    Calls Tryz.prog 144 #[.pointer (some ⟨b, 0, none⟩)] w fun e w' => e = Thrown 80 ∧ ∃ u, Went b u w w' := by
  cases hf : fullL (s.data.toList.takeWhile wch) with
  | false => exact attr_word b s w h hf
  | true =>
    rw [attrL_steps hf] at ha
    obtain ⟨t, ht⟩ := mk_l (s.data.toList.takeWhile wch)
    obtain ⟨u1, hu1⟩ := mk_l (s.data.toList.dropWhile wch)
    obtain ⟨u2, hu2⟩ := mk_l (u1.data.toList.dropWhile blk)
    rw [← hu1, ← hu2] at ha
    by_cases h2 : ∃ r, u2.data.toList = 61 :: r
    · obtain ⟨r, h2⟩ := h2
      rw [h2] at ha
      dsimp only at ha
      rw [if_pos rfl] at ha
      obtain ⟨u3, hu3⟩ := mk_l r
      obtain ⟨u4, hu4⟩ := mk_l (u3.data.toList.dropWhile blk)
      rw [← hu3, ← hu4] at ha
      exact attr_val b s t u1 u2 u3 u4 w h ht hu1 hf hu2 (by rw [h2, hu3]) hu4 (by
        cases hv : valL u4.data.toList with
        | none => rfl
        | some p => rw [hv] at ha; cases ha)
    · exact attr_eq b s t u1 u2 w h ht hu1 hf hu2 fun r e => h2 ⟨r, e⟩
set_option maxHeartbeats 2000000 in
set_option maxRecDepth 100000 in
theorem shut_yes (b : Nat) (s t u1 u2 : ByteArray) (u3 : ByteArray) (w : World) (h : At9 b s w) (ht : t.data.toList = s.data.toList.takeWhile wch) (hu1 : u1.data.toList = s.data.toList.dropWhile wch) (hf : fullL (s.data.toList.takeWhile wch) = true) (hu2 : u2.data.toList = u1.data.toList.dropWhile blk) (hu3 : u2.data.toList = 62 :: u3.data.toList) :
    Calls Tryz.prog 113 #[.pointer (some ⟨b, 0, none⟩)] w fun e w' => e = .returned (.agg #[.int .u8 2, .string t, .slice none 0 0, .string ⟨#[]⟩]) ∧ Went b u3 w w' := by
  have hz1 : u1.size ≤ s.size := by have := dropWhile_len wch s.data.toList; rw [← hu1, ba_l, ba_l] at this; exact this
  have hz2 : u2.size ≤ u1.size := by have := dropWhile_len blk u1.data.toList; rw [← hu2, ba_l, ba_l] at this; exact this
  have hsz := h.sz
  have hgb : w.heap.size ≠ b := Nat.ne_of_gt h.rd.lt
  have hp2 : isP u2.data.toList = true := by rw [hu2, hu1]; exact beh_b (beh_w h.tx)
  have HF : Hid (∀ o, Calls Tryz.prog 141 #[.pointer (some ⟨b, 0, none⟩)] (w.alloc o) fun e w' => e = .returned (.string t) ∧ Went b u1 (w.alloc o) w') := Lib.hid fun o => full_yes b s t u1 (w.alloc o) (h.alloc o).rd (by omega) ht hu1 (ht ▸ hf)
  have HB1 : Hid (∀ W, Rd b u1 W → Calls Tryz.prog 142 #[.pointer (some ⟨b, 0, none⟩)] W fun e w' => (∃ q, e = .returned (.bool q)) ∧ Went b u2 W w') := Lib.hid fun W hW => blank9_ b u1 u2 W hW (by omega) hu2
  have HGB := Lib.hid hgb
  have HBT : Hid (b < w.heap.size) := h.rd.lt
  have HM : Hid (∀ W, Rd b u2 W → Calls Tryz.prog 143 #[.pointer (some ⟨b, 0, none⟩), .string ⟨#[62]⟩] W fun e w' => e = .returned (.tuple #[]) ∧ Went b u3 W w') := Lib.hid fun W hW => must_yes b u2 u3 ⟨#[62]⟩ W hW (by rw [hu3]; rfl)
  clear h ht hu1 hf hu2 hz1 hz2 hsz hgb hp2 hu3
  go_enter Tryz.func113, Tryz.ntmps113
  go_wp2_with (first
    | (go_at_call 141; (with_reducible refine (HF.out _).mono ?_); rintro e1 w1 ⟨rfl, hw1⟩; have HW1 : Hid (Went b u1 (w.alloc (.cells zTk 82)) w1) := Lib.hid hw1; clear hw1)
    | (refine wpList_store_row rfl _ _ _ rfl w1.heap.size #[.int .u8 2, .string t, .slice none 0 0, .string ⟨#[]⟩] rfl rfl 82 zTk (heap_alloc_new _ _) sizeTk rfl (oneTk _ _ _ _) ?_; rw [World.setRow_alloc_new])
    | (go_at_call 142; (with_reducible refine (HB1.out _ (HW1.out.rd.below (stpA (Below.refl _ _) _))).mono ?_); rintro e2 w2 ⟨⟨q2, rfl⟩, hw2⟩; have HX2 : Hid (Went b u2 (w1.alloc (.cells #[.int .u8 2, .string t, .slice none 0 0, .string ⟨#[]⟩] 82)) w2) := Lib.hid hw2; have HW2 : Hid (Went b u2 (w.alloc (.cells zTk 82)) w2) := Lib.hid (HW1.out.trans (Went.after (stpA (Below.refl _ _) _) hw2)); clear hw2)
    | (go_at_call 143; (with_reducible refine (HM.out w2 HW2.out.rd).mono ?_); rintro e3 w3 ⟨rfl, hw3⟩; have HW3 : Hid (Went b u3 (w.alloc (.cells zTk 82)) w3) := Lib.hid (HW2.out.trans hw3); have HX3 : Hid (Went b u3 (w1.alloc (.cells #[.int .u8 2, .string t, .slice none 0 0, .string ⟨#[]⟩] 82)) w3) := Lib.hid (HX2.out.trans hw3); have HG3 := Lib.hid (HW3.out.heap (heap_alloc_new w (.cells zTk 82)) HGB.out); have HL3 := Lib.hid (HX3.out.heap (heap_alloc_new w1 (.cells #[.int .u8 2, .string t, .slice none 0 0, .string ⟨#[]⟩] 82)) (Nat.ne_of_gt HW1.out.rd.lt)); clear hw3)
    | (refine wpList_load_row rfl _ _ rfl w1.heap.size rfl 82 #[.int .u8 2, .string t, .slice none 0 0, .string ⟨#[]⟩] (0, 0) _ HL3.out Tryz.underlying82 rfl sizeTk ?_)
    | (refine wpList_store_row rfl _ _ _ rfl w.heap.size #[.int .u8 2, .string t, .slice none 0 0, .string ⟨#[]⟩] rfl rfl 82 zTk HG3.out sizeTk rfl (oneTk _ _ _ _) ?_)
    | fail)
  exact bodyPost_ret (v := .agg #[.int .u8 2, .string t, .slice none 0 0, .string ⟨#[]⟩]) (results_cell_row rfl _ _ _ _ _ _ _ rfl (setRow_heap _ _ _ #[.int .u8 2, .string t, .slice none 0 0, .string ⟨#[]⟩] _ _ HG3.out) Tryz.underlying82 rfl sizeTk) rfl ⟨rfl, (Went.after (stpA (Below.refl _ _) _) HW3.out).setRow _ _ (Nat.le_refl _) HBT.out⟩
set_option maxHeartbeats 2000000 in
set_option maxRecDepth 100000 in
theorem shut_gt (b : Nat) (s t u1 u2 : ByteArray)  (w : World) (h : At9 b s w) (ht : t.data.toList = s.data.toList.takeWhile wch) (hu1 : u1.data.toList = s.data.toList.dropWhile wch) (hf : fullL (s.data.toList.takeWhile wch) = true) (hu2 : u2.data.toList = u1.data.toList.dropWhile blk) (hu3 : ∀ r, u2.data.toList ≠ 62 :: r) :
    Calls Tryz.prog 113 #[.pointer (some ⟨b, 0, none⟩)] w fun e w' => e = Thrown 80 ∧ ∃ u, Went b u w w' := by
  have hz1 : u1.size ≤ s.size := by have := dropWhile_len wch s.data.toList; rw [← hu1, ba_l, ba_l] at this; exact this
  have hz2 : u2.size ≤ u1.size := by have := dropWhile_len blk u1.data.toList; rw [← hu2, ba_l, ba_l] at this; exact this
  have hsz := h.sz
  have hgb : w.heap.size ≠ b := Nat.ne_of_gt h.rd.lt
  have hp2 : isP u2.data.toList = true := by rw [hu2, hu1]; exact beh_b (beh_w h.tx)
  have HF : Hid (∀ o, Calls Tryz.prog 141 #[.pointer (some ⟨b, 0, none⟩)] (w.alloc o) fun e w' => e = .returned (.string t) ∧ Went b u1 (w.alloc o) w') := Lib.hid fun o => full_yes b s t u1 (w.alloc o) (h.alloc o).rd (by omega) ht hu1 (ht ▸ hf)
  have HB1 : Hid (∀ W, Rd b u1 W → Calls Tryz.prog 142 #[.pointer (some ⟨b, 0, none⟩)] W fun e w' => (∃ q, e = .returned (.bool q)) ∧ Went b u2 W w') := Lib.hid fun W hW => blank9_ b u1 u2 W hW (by omega) hu2
  have HM : Hid (∀ W, Rd b u2 W → Calls Tryz.prog 143 #[.pointer (some ⟨b, 0, none⟩), .string ⟨#[62]⟩] W fun e w' => e = Thrown 80 ∧ Went b u2 W w') := Lib.hid fun W hW => must_no b u2 ⟨#[62]⟩ W hW (pre1 hu3)
  unfold Thrown at HM ⊢
  clear h ht hu1 hf hu2 hz1 hz2 hsz hgb hp2 hu3
  go_enter Tryz.func113, Tryz.ntmps113
  go_wp2_with (first
    | (go_at_call 141; (with_reducible refine (HF.out _).mono ?_); rintro e1 w1 ⟨rfl, hw1⟩; have HW1 : Hid (Went b u1 (w.alloc (.cells zTk 82)) w1) := Lib.hid hw1; clear hw1)
    | (refine wpList_store_row rfl _ _ _ rfl w1.heap.size #[.int .u8 2, .string t, .slice none 0 0, .string ⟨#[]⟩] rfl rfl 82 zTk (heap_alloc_new _ _) sizeTk rfl (oneTk _ _ _ _) ?_; rw [World.setRow_alloc_new])
    | (go_at_call 142; (with_reducible refine (HB1.out _ (HW1.out.rd.below (stpA (Below.refl _ _) _))).mono ?_); rintro e2 w2 ⟨⟨q2, rfl⟩, hw2⟩; have HX2 : Hid (Went b u2 (w1.alloc (.cells #[.int .u8 2, .string t, .slice none 0 0, .string ⟨#[]⟩] 82)) w2) := Lib.hid hw2; have HW2 : Hid (Went b u2 (w.alloc (.cells zTk 82)) w2) := Lib.hid (HW1.out.trans (Went.after (stpA (Below.refl _ _) _) hw2)); clear hw2)
    | (go_at_call 143; (with_reducible refine (HM.out w2 HW2.out.rd).mono ?_); rintro e3 w3 ⟨rfl, hw3⟩)
    | fail)
  (try simp only [Exit.inBlock, Exit.then])
  exact ⟨rfl, rfl, _, Went.after (stpA (Below.refl _ _) _) (HW2.out.trans hw3)⟩
set_option maxHeartbeats 2000000 in
set_option maxRecDepth 100000 in
theorem shut_word (b : Nat) (s : ByteArray) (w : World) (h : At9 b s w) (hf : fullL (s.data.toList.takeWhile wch) = false) :
    Calls Tryz.prog 113 #[.pointer (some ⟨b, 0, none⟩)] w fun e w' => e = Thrown 80 ∧ ∃ u, Went b u w w' := by
  have hsz := h.sz
  have HF : Hid (∀ o, Calls Tryz.prog 141 #[.pointer (some ⟨b, 0, none⟩)] (w.alloc o) fun e w' => e = Thrown 80 ∧ ∃ u, Went b u (w.alloc o) w') := Lib.hid fun o => full_no b s (w.alloc o) (h.alloc o).rd (by omega) hf
  unfold Thrown at HF ⊢
  clear h hf hsz
  go_enter Tryz.func113, Tryz.ntmps113
  go_wp2_with (first
    | (go_at_call 141; (with_reducible refine (HF.out _).mono ?_); rintro e1 w1 ⟨rfl, u1, hw1⟩)
    | fail)
  (try simp only [Exit.inBlock, Exit.then])
  exact ⟨rfl, rfl, _, Went.after (stpA (Below.refl _ _) _) hw1⟩
/-- What shut does. -/
theorem shut_some (b : Nat) (s t y : ByteArray) (w : World) (h : At9 b s w) (ha : shutL s.data.toList = some (⟨2, t.data.toList, [], []⟩, y.data.toList)) :
    Calls Tryz.prog 113 #[.pointer (some ⟨b, 0, none⟩)] w fun e w' => e = .returned (.agg #[.int .u8 2, .string t, .slice none 0 0, .string ⟨#[]⟩]) ∧ Went b y w w' := by
  cases hf : fullL (s.data.toList.takeWhile wch) with
  | false => rw [shutL_nofull hf] at ha; cases ha
  | true =>
    rw [shutL_steps hf] at ha
    obtain ⟨x, hx⟩ := mk_l (s.data.toList.takeWhile wch)
    obtain ⟨u1, hu1⟩ := mk_l (s.data.toList.dropWhile wch)
    obtain ⟨u2, hu2⟩ := mk_l (u1.data.toList.dropWhile blk)
    rw [← hu1, ← hu2, ← hx] at ha
    cases h2 : u2.data.toList with
    | nil => rw [h2] at ha; cases ha
    | cons c r =>
      rw [h2] at ha
      dsimp only at ha
      by_cases hc : c = 62
      · subst hc
        rw [if_pos rfl] at ha
        obtain ⟨e1, e2⟩ := (Prod.mk.injEq _ _ _ _).mp (Option.some.inj ha)
        injection e1 with _ e3
        obtain rfl := ba_x e3
        exact shut_yes b s x u1 u2 y w h hx hu1 hf hu2 (by rw [h2, e2])
      · rw [if_neg hc] at ha; cases ha
theorem shut_none (b : Nat) (s : ByteArray) (w : World) (h : At9 b s w) (ha : shutL s.data.toList = none) :
    Calls Tryz.prog 113 #[.pointer (some ⟨b, 0, none⟩)] w fun e w' => e = Thrown 80 ∧ ∃ u, Went b u w w' := by
  cases hf : fullL (s.data.toList.takeWhile wch) with
  | false => exact shut_word b s w h hf
  | true =>
    rw [shutL_steps hf] at ha
    obtain ⟨x, hx⟩ := mk_l (s.data.toList.takeWhile wch)
    obtain ⟨u1, hu1⟩ := mk_l (s.data.toList.dropWhile wch)
    obtain ⟨u2, hu2⟩ := mk_l (u1.data.toList.dropWhile blk)
    rw [← hu1, ← hu2] at ha
    refine shut_gt b s x u1 u2 w h hx hu1 hf hu2 fun r e => ?_
    rw [e] at ha
    dsimp only at ha
    rw [if_pos rfl] at ha
    cases ha
end Hx
end Go.Proofs.YtbjgfaflikgobaaGreatDoor
namespace Go.Proofs.YtbjgfaflikgobaaGreatDoor
open Go.RowKit
namespace Hx
open Lx Tx Nmb Es
set_option linter.unusedVariables false
set_option linter.unusedSimpArgs false
/-- What comes of what stands behind a tag's name. -/
def tagOut (l : List UInt8) : Except Int (Bool × List Pr × List UInt8) := match tagH l with
  | none => .error 80
  | some (b, m, x) => if fresh [] m = true then (if 16 < m.length then .error 4 else .ok (b, m, x)) else .error 80
/-- What the loop over a tag's attributes holds. -/
structure TgS (w : World) (b g2 g3 : Nat) (t : ByteArray) (z : Int) (L : List PB) (v : Value) (u : ByteArray) (wr : World) : Prop where
  gr : w.grownBy wr (some b)
  rd : Rd b u wr
  c2 : wr.heap[g2]? = some (.cells zTk 82 (0, 0))
  c3 : wr.heap[g3]? = some (.cells #[.int .u8 z, .string t, v, .string ⟨#[]⟩] 82 (0, 0))
  own : wr.ownsRow (g3 + 1) 119 2 v L.length (L.flatMap prCells)
section
variable {w : World} {b g2 g3 : Nat} {t : ByteArray} {z : Int} {L : List PB} {v : Value} {u : ByteArray} {wr : World}
theorem TgS.went (h : TgS w b g2 g3 t z L v u wr) (hb : b < g2) (hg : g2 < g3) {u' : ByteArray} {wr' : World} (k : Went b u' wr wr') : TgS w b g2 g3 t z L v u' wr' :=
  ⟨h.gr.trans k.gr, k.rd, k.heap h.c2 (by omega), k.heap h.c3 (by omega), h.own.kept k.gr (by
    cases hv : v.ownBlock with
    | none => exact .inl rfl
    | some q =>
      right
      intro e
      have := (h.own.lt q hv).1
      injection e with e
      omega)⟩
theorem TgS.below (h : TgS w b g2 g3 t z L v u wr) {wr' : World} (k : Below wr.heap.size wr wr') : TgS w b g2 g3 t z L v u wr' :=
  ⟨h.gr.trans (grown_below k _), h.rd.below k, kept_heap h.c2 k, kept_heap h.c3 k, own_belowK h.own k (Nat.le_refl _)⟩
theorem TgS.cell (h : TgS w b g2 g3 t z L v u wr) (k : Nat) : wr.cell? ⟨g3, k, none⟩ = (#[.int .u8 z, .string t, v, .string ⟨#[]⟩] : Array Value)[k]? := cellV wr g3 k _ _ _ h.c3
theorem TgS.free (h : TgS w b g2 g3 t z L v u wr) (k : Nat) : wr.frozen? ⟨g3, k, none⟩ = false := freeV wr g3 k _ _ h.c3
theorem set_same9 (w : World) (g k : Nat) (cs : Array Value) (T : TypeId) (x : Value) (h : w.heap[g]? = some (.cells cs T (0, 0))) : (w.setCell ⟨g, k, none⟩ x).heap[g]? = some (.cells (cs.setIfInBounds k x) T (0, 0)) := by
  simp [World.setCell, Array.getElem?_modify, h]
theorem TgS.kind (h : TgS w b g2 g3 t z L v u wr) (hb : b < g2) (hg : g2 < g3) (hw : w.heap.size ≤ g2) (z' : Int) : TgS w b g2 g3 t z' L v u (wr.setCell ⟨g3, 0, none⟩ (.int .u8 z')) := by
  refine ⟨⟨h.gr.os, h.gr.tape, h.gr.output, by have := h.gr.size; simpa [World.setCell] using this, fun k hk hne => (set_other wr g3 0 k _ (by omega)).trans (h.gr.block k hk hne)⟩, (set_other wr g3 0 b _ (by omega)).trans h.rd, (set_other wr g3 0 g2 _ (by omega)).trans h.c2, ?_, own_setCell h.own g3 0 (by omega) _⟩
  have := set_same9 wr g3 0 _ _ (.int .u8 z') h.c3
  simpa using this
theorem TgS.went_all (h : TgS w b g2 g3 t z L v u wr) : Went b u w wr := ⟨h.rd, h.gr⟩
end
theorem tagOut_none {l : List UInt8} (h : tagH l = none) : tagOut l = .error 80 := by unfold tagOut; rw [h]
theorem tagOut_some {l x : List UInt8} {q : Bool} {m : List Pr} (h : tagH l = some (q, m, x)) : tagOut l = if fresh [] m = true then (if 16 < m.length then .error 4 else .ok (q, m, x)) else .error 80 := by unfold tagOut; rw [h]
/-- So far these attributes. -/
def tagMid (l0 l : List UInt8) (m : List Pr) : Prop := tagH l0 = (tagH l).map fun q => (q.1, m ++ q.2.1, q.2.2)
theorem tagMid.start (l : List UInt8) : tagMid l l [] := by
  unfold tagMid
  cases tagH l <;> rfl
theorem tagMid.next {l0 l y : List UInt8} {m : List Pr} {p : Pr} (h : tagMid l0 l m) (k : tagH l = (tagH y).map fun q => (q.1, p :: q.2.1, q.2.2)) : tagMid l0 y (m ++ [p]) := by
  unfold tagMid at h ⊢
  rw [h, k]
  cases tagH y <;> simp
/-- What tag answers, behind the name. -/
def TgTo (b : Nat) (t u1 : ByteArray) (w : World) (e : Ending) (w' : World) : Prop :=
  (∃ er, tagOut u1.data.toList = .error er ∧ e = Thrown er ∧ ∃ u, Went b u w w') ∨
  ∃ (q : Bool) (k : Nat) (m : List Pr) (y : ByteArray) (A : Option Addr) (n c : Nat), tagOut u1.data.toList = .ok (q, m, y.data.toList) ∧ k = (if q then 3 else 1) ∧ m.length = n ∧ e = .returned (.agg #[.int .u8 (k : Int), .string t, .slice A n c, .string ⟨#[]⟩]) ∧ Went b y w w' ∧
    TkR w.heap.size w' #[.int .u8 (k : Int), .string t, .slice A n c, .string ⟨#[]⟩] ⟨k, t.data.toList, m, []⟩
theorem TgS.first (w : World) (b : Nat) (t u1 : ByteArray) (w1 : World) (h : Went b u1 (w.alloc (.cells zTk 82)) w1) (hb : b < w.heap.size) : TgS w b w.heap.size w1.heap.size t 0 [] (.slice none 0 0) u1 (w1.alloc (.cells #[.int .u8 0, .string t, .slice none 0 0, .string ⟨#[]⟩] 82)) := by
  have hk := stpA (Below.refl w1.heap.size w1) (.cells #[.int .u8 0, .string t, .slice none 0 0, .string ⟨#[]⟩] 82)
  refine ⟨(grown_below (stpA (Below.refl w.heap.size w) (.cells zTk 82)) _).trans (h.gr.trans (grown_below hk _)), h.rd.below hk, kept_heap (h.heap (heap_alloc_new w (.cells zTk 82)) (by omega)) hk, heap_alloc_new _ _, World.ownsRow_nil _ _ _ _⟩
theorem TgS.push {w : World} {b g2 g3 : Nat} {t : ByteArray} {L : List PB} {A : Option Addr} {c g4 c4 : Nat} {y nm vl : ByteArray} {w5 w6 : World} {ob : Obj} (h : TgS w b g2 g3 t 0 L (.slice A L.length c) y w5) (hb : b < g2) (hg : g2 < g3) (hw : w.heap.size ≤ g2)
    (hown : w6.ownsRow (g3 + 1) 119 2 (.slice (some ⟨g4, 0, none⟩) (L.length + 1) c4) (L.length + 1) (L.flatMap prCells ++ [.string nm, .string vl])) (hgr : (w5.alloc ob).grownBy w6 (Value.slice A L.length c).ownBlock) :
    TgS w b g2 g3 t 0 (L ++ [(nm, vl)]) (.slice (some ⟨g4, 0, none⟩) (L.length + 1) c4) y (w6.setCell ⟨g3, 2, none⟩ (.slice (some ⟨g4, 0, none⟩) (L.length + 1) c4)) := by
  have hne : ∀ k, k ≤ g3 → some k ≠ (Value.slice A L.length c).ownBlock := fun k hk e => by have := (h.own.lt k e.symm).1; omega
  have stay : ∀ k o, k ≤ g3 → w5.heap[k]? = some o → w6.heap[k]? = some o := fun k o hk ho => by
    have h1 := kept_heap ho (stpA (Below.refl w5.heap.size w5) ob)
    exact (hgr.block k (Array.getElem?_eq_some_iff.1 h1).1 (hne k hk)).trans h1
  have hsz : w5.heap.size ≤ w6.heap.size := Nat.le_trans (by simp) hgr.size
  have ho2 := set_same9 w6 g3 2 _ _ (.slice (some ⟨g4, 0, none⟩) (L.length + 1) c4) (stay g3 _ (Nat.le_refl _) h.c3)
  refine ⟨⟨hgr.os.trans h.gr.os, hgr.tape.trans h.gr.tape, hgr.output.trans h.gr.output, by have := h.gr.size; simp [World.setCell]; omega, fun k hk hkb => ?_⟩, (set_other w6 g3 2 b _ (by omega)).trans (stay b _ (by omega) h.rd), (set_other w6 g3 2 g2 _ (by omega)).trans (stay g2 _ (by omega) h.c2), ?_, ?_⟩
  · rw [set_other w6 g3 2 k _ (by omega)]
    have hk5 : k < w5.heap.size := Nat.lt_of_lt_of_le hk h.gr.size
    rw [hgr.block k (by simp; omega) (hne k (by omega)), Below.heap_alloc _ _ _ hk5]
    exact h.gr.block k hk hkb
  · simpa using ho2
  · have := own_setCell hown g3 2 (by omega) (.slice (some ⟨g4, 0, none⟩) (L.length + 1) c4)
    rw [List.length_append, List.flatMap_append]
    simpa [prCells] using this
theorem TgS.reads {w : World} {b g2 g3 : Nat} {t : ByteArray} {z : Int} {L : List PB} {A : Option Addr} {c : Nat} {y : ByteArray} {W : World} (h : TgS w b g2 g3 t z L (.slice A L.length c) y W) : RdC PrC W W.heap.size A (L.map prVal) ∧ L.length ≤ c := by
  obtain ⟨h1, _, h3, _⟩ := own_attrs h.own
  exact ⟨h1, h3⟩
set_option maxHeartbeats 16000000 in
set_option maxRecDepth 100000 in
theorem tag_named (b : Nat) (s t u1 : ByteArray) (w : World) (h : At9 b s w) (ht : t.data.toList = s.data.toList.takeWhile wch) (hu1 : u1.data.toList = s.data.toList.dropWhile wch) (hf : fullL (s.data.toList.takeWhile wch) = true) :
    Calls Tryz.prog 114 #[.pointer (some ⟨b, 0, none⟩)] w (TgTo b t u1 w) := by
  obtain ⟨i0, hi, hz0, hz1, hz2⟩ := info_parts infoPr
  have HI := Lib.hid hi
  have HZ0 := Lib.hid hz0
  have HZ1 := Lib.hid hz1
  have HZ2 := Lib.hid hz2
  have hsz := h.sz
  have hus : u1.size ≤ 16384 := by have := dropWhile_len wch s.data.toList; rw [← hu1, ba_l, ba_l] at this; omega
  have HF : Hid (∀ o, Calls Tryz.prog 141 #[.pointer (some ⟨b, 0, none⟩)] (w.alloc o) fun e w' => e = .returned (.string t) ∧ Went b u1 (w.alloc o) w') := Lib.hid fun o => full_yes b s t u1 (w.alloc o) (h.alloc o).rd (by omega) ht hu1 (ht ▸ hf)
  have HP1 : Hid (isP u1.data.toList = true) := Lib.hid (by rw [hu1]; exact beh_w h.tx)
  have HUS := Lib.hid hus
  have HBT : Hid (b < w.heap.size) := h.rd.lt
  have HEV : Hid (∀ u W, w.grownBy W (some b) → Rd b u W → Ev9 W) := Lib.hid fun u W hg _ => Ev9.went (t := u) h.ev h.rd hg
  clear h ht hu1 hf hsz hi hz0 hz1 hz2 hus
  go_enter Tryz.func114, Tryz.ntmps114
  go_wp2_with fail
  go_step3
  go_wp2_with (first
    | (go_at_call 141; (with_reducible refine (HF.out _).mono ?_); rintro e1 w1 ⟨rfl, hw1⟩; have HW1 : Hid (Went b u1 (w.alloc (.cells zTk 82)) w1) := Lib.hid hw1; have HG12 : Hid (w.heap.size < w1.heap.size) := Lib.hid (by have := hw1.gr.size; simp at this; omega); have HST : Hid (TgS w b w.heap.size w1.heap.size t 0 [] (.slice none 0 0) u1 (w1.alloc (.cells #[.int .u8 0, .string t, .slice none 0 0, .string ⟨#[]⟩] 82))) := Lib.hid (TgS.first w b t u1 w1 hw1 HBT.out); clear hw1)
    | (refine wpList_store_row rfl _ _ _ rfl w1.heap.size #[.int .u8 0, .string t, .slice none 0 0, .string ⟨#[]⟩] rfl rfl 82 zTk (heap_alloc_new _ _) sizeTk rfl (oneTk _ _ _ _) ?_; rw [World.setRow_alloc_new])
    | fail)
  go_step3
  go_wp2_with fail
  (try simp only [Act.put])
  go_loopg [4] 20000 (fun gg v4 wr => ∃ (L : List PB) (v : Value) (u : ByteArray), u.size ≤ gg ∧ TgS w b w.heap.size w1.heap.size t 0 L v u wr ∧ tagMid u1.data.toList u.data.toList (L.map prVal) ∧ L.length + u.size ≤ 16384 ∧ isP u.data.toList = true ∧ (∀ p ∈ L, (prVal p).name.length ≤ 16384))
  case atStart =>
    exact ⟨[], .slice none 0 0, u1, by have := HUS.out; omega, HST.out, tagMid.start _, by have := HUS.out; simpa using this, HP1.out, by simp⟩
  case round =>
    obtain ⟨L, v, u, hg, hst, hmid, hlen, hpu, hnm⟩ := hrel
    obtain ⟨A, c, rfl⟩ := own_form2 hst.own
    obtain ⟨u2, hu2⟩ := mk_l (u.data.toList.dropWhile blk)
    have hle2 : u2.size ≤ u.size := by have := dropWhile_len blk u.data.toList; rw [← hu2, ba_l, ba_l] at this; exact this
    have hp2 : isP u2.data.toList = true := by rw [hu2]; exact beh_b hpu
    obtain ⟨q, hq⟩ : ∃ q, decide (u.size ≠ u2.size) = q := ⟨_, rfl⟩
    have HB : Hid (Calls Tryz.prog 142 #[.pointer (some ⟨b, 0, none⟩)] wr fun e w' => e = .returned (.bool q) ∧ Went b u2 wr w') := Lib.hid (blank9 b u u2 q wr hst.rd (by omega) hu2 hq)
    have HST0 := Lib.hid hst
    have hG := HG12.out
    have hbt := HBT.out
    have HNM := Lib.hid hnm
    have HLEN := Lib.hid hlen
    have HMID := Lib.hid hmid
    have HTW : Hid (∀ W z y, TgS w b w.heap.size w1.heap.size t z L (.slice A L.length c) y W → ∀ q2, (!fresh [] (L.map prVal)) = q2 → Calls Tryz.prog 145 #[.slice A L.length c] W fun e w' => e = .returned (.bool q2) ∧ Below W.heap.size W w') := Lib.hid fun W z y hW q2 hq2 =>
      twice9 A L.length c (L.map prVal) W hW.reads.1 (List.length_map _) hW.reads.2 (by omega) (fun p hp => by obtain ⟨pb, h1, rfl⟩ := List.mem_map.1 hp; have := hnm pb h1; omega) q2 hq2
    by_cases h62 : ∃ y', u2.data.toList = 62 :: y'
    · obtain ⟨y', h2⟩ := h62
      obtain ⟨y, hy⟩ := mk_l y'
      have hu3 : u2.data.toList = 62 :: y.data.toList := by rw [h2, hy]
      have HOUT : Hid (tagH u1.data.toList = some (false, L.map prVal, y.data.toList)) := Lib.hid (by
        have := hmid
        unfold tagMid at this
        rw [this, tagH_shut (by rw [← hu2]; exact hu3)]
        simp)
      have HT1 : Hid (∀ W, Rd b u2 W → Calls Tryz.prog 112 #[.pointer (some ⟨b, 0, none⟩), .string ⟨#[62]⟩] W fun e w' => e = .returned (.bool true) ∧ Went b y W w') := Lib.hid fun W hW => take_yes b u2 y ⟨#[62]⟩ W hW (by rw [hu3]; rfl)
      clear h2 hy hu3 hu2 hle2 hp2 hq hst hmid hpu hG hbt hnm hlen hg
      cases hfr : fresh [] (L.map prVal) with
      | false =>
        have HFR : Hid ((!fresh [] (L.map prVal)) = true) := Lib.hid (by rw [hfr]; rfl)
        have HERR : Hid (tagOut u1.data.toList = .error 80) := Lib.hid (by rw [tagOut_some HOUT.out, hfr, if_neg (by decide)])
        clear hfr
        go_wp2_with (first
          | (go_at_call 142; (with_reducible refine (HB.out).mono ?_); rintro e2 w2 ⟨rfl, hw2⟩; have HS2 : Hid (TgS w b w.heap.size w1.heap.size t 0 L (.slice A L.length c) u2 w2) := Lib.hid (HST0.out.went HBT.out HG12.out hw2); clear hw2)
          | (go_at_call 112; (with_reducible refine (HT1.out w2 HS2.out.rd).mono ?_); rintro e3 w3 ⟨rfl, hw3⟩; have HS3 : Hid (TgS w b w.heap.size w1.heap.size t 0 L (.slice A L.length c) y w3) := Lib.hid (HS2.out.went HBT.out HG12.out hw3); have k03 := HS3.out.cell 0; have k23 := HS3.out.cell 2; have f03 := HS3.out.free 0; have f23 := HS3.out.free 2; have HK : Hid (TgS w b w.heap.size w1.heap.size t 1 L (.slice A L.length c) y (w3.setCell ⟨w1.heap.size, 0, none⟩ (.int .u8 1))) := Lib.hid (HS3.out.kind HBT.out HG12.out (Nat.le_refl _) 1); have kk2 := HK.out.cell 2; clear hw3)
          | (go_at_call 145; (with_reducible refine (HTW.out (w3.setCell ⟨w1.heap.size, 0, none⟩ (.int .u8 1)) 1 y HK.out true HFR.out).mono ?_); rintro e4 w4 ⟨rfl, hb4⟩; have HK4 : Hid (TgS w b w.heap.size w1.heap.size t 1 L (.slice A L.length c) y w4) := Lib.hid (HK.out.below hb4); have k24 := HK4.out.cell 2; clear hb4)
          | fail)
        (try simp only [Exit.inBlock, Exit.then, Exit.noGoto])
        exact ⟨rfl, .inl ⟨80, HERR.out, rfl, _, HK4.out.went_all⟩⟩
      | true =>
        have HFR : Hid ((!fresh [] (L.map prVal)) = false) := Lib.hid (by rw [hfr]; rfl)
        by_cases h16 : 16 < L.length
        · have g16 : decide ((16 : Int) < (L.length : Int)) = true := decide_eq_true (by omega)
          have HERR : Hid (tagOut u1.data.toList = .error 4) := Lib.hid (by rw [tagOut_some HOUT.out, hfr, if_pos rfl, if_pos (by rw [List.length_map]; exact h16)])
          clear hfr h16
          go_wp2_with (first
            | (go_at_call 142; (with_reducible refine (HB.out).mono ?_); rintro e2 w2 ⟨rfl, hw2⟩; have HS2 : Hid (TgS w b w.heap.size w1.heap.size t 0 L (.slice A L.length c) u2 w2) := Lib.hid (HST0.out.went HBT.out HG12.out hw2); clear hw2)
            | (go_at_call 112; (with_reducible refine (HT1.out w2 HS2.out.rd).mono ?_); rintro e3 w3 ⟨rfl, hw3⟩; have HS3 : Hid (TgS w b w.heap.size w1.heap.size t 0 L (.slice A L.length c) y w3) := Lib.hid (HS2.out.went HBT.out HG12.out hw3); have k03 := HS3.out.cell 0; have k23 := HS3.out.cell 2; have f03 := HS3.out.free 0; have f23 := HS3.out.free 2; have HK : Hid (TgS w b w.heap.size w1.heap.size t 1 L (.slice A L.length c) y (w3.setCell ⟨w1.heap.size, 0, none⟩ (.int .u8 1))) := Lib.hid (HS3.out.kind HBT.out HG12.out (Nat.le_refl _) 1); have kk2 := HK.out.cell 2; clear hw3)
            | (go_at_call 145; (with_reducible refine (HTW.out (w3.setCell ⟨w1.heap.size, 0, none⟩ (.int .u8 1)) 1 y HK.out false HFR.out).mono ?_); rintro e4 w4 ⟨rfl, hb4⟩; have HK4 : Hid (TgS w b w.heap.size w1.heap.size t 1 L (.slice A L.length c) y w4) := Lib.hid (HK.out.below hb4); have k24 := HK4.out.cell 2; clear hb4)
            | fail)
          (try simp only [Exit.inBlock, Exit.then, Exit.noGoto])
          exact ⟨rfl, .inl ⟨4, HERR.out, rfl, _, HK4.out.went_all⟩⟩
        · have g16 : decide ((16 : Int) < (L.length : Int)) = false := decide_eq_false (by omega)
          have HOK : Hid (tagOut u1.data.toList = .ok (false, L.map prVal, y.data.toList)) := Lib.hid (by rw [tagOut_some HOUT.out, hfr, if_pos rfl, if_neg (by rw [List.length_map]; exact h16)])
          clear hfr h16
          go_wp2_with (first
            | (go_at_call 142; (with_reducible refine (HB.out).mono ?_); rintro e2 w2 ⟨rfl, hw2⟩; have HS2 : Hid (TgS w b w.heap.size w1.heap.size t 0 L (.slice A L.length c) u2 w2) := Lib.hid (HST0.out.went HBT.out HG12.out hw2); clear hw2)
            | (go_at_call 112; (with_reducible refine (HT1.out w2 HS2.out.rd).mono ?_); rintro e3 w3 ⟨rfl, hw3⟩; have HS3 : Hid (TgS w b w.heap.size w1.heap.size t 0 L (.slice A L.length c) y w3) := Lib.hid (HS2.out.went HBT.out HG12.out hw3); have k03 := HS3.out.cell 0; have k23 := HS3.out.cell 2; have f03 := HS3.out.free 0; have f23 := HS3.out.free 2; have HK : Hid (TgS w b w.heap.size w1.heap.size t 1 L (.slice A L.length c) y (w3.setCell ⟨w1.heap.size, 0, none⟩ (.int .u8 1))) := Lib.hid (HS3.out.kind HBT.out HG12.out (Nat.le_refl _) 1); have kk2 := HK.out.cell 2; clear hw3)
            | (go_at_call 145; (with_reducible refine (HTW.out (w3.setCell ⟨w1.heap.size, 0, none⟩ (.int .u8 1)) 1 y HK.out false HFR.out).mono ?_); rintro e4 w4 ⟨rfl, hb4⟩; have HK4 : Hid (TgS w b w.heap.size w1.heap.size t 1 L (.slice A L.length c) y w4) := Lib.hid (HK.out.below hb4); have k24 := HK4.out.cell 2; clear hb4)
            | (refine wpList_load_row rfl _ _ rfl w1.heap.size rfl 82 #[.int .u8 1, .string t, .slice A L.length c, .string ⟨#[]⟩] (0, 0) _ HK4.out.c3 Tryz.underlying82 rfl sizeTk ?_)
            | (refine wpList_store_row rfl _ _ _ rfl w.heap.size #[.int .u8 1, .string t, .slice A L.length c, .string ⟨#[]⟩] rfl rfl 82 zTk HK4.out.c2 sizeTk rfl (oneTk _ _ _ _) ?_)
            | fail)
          (try simp only [Exit.inBlock, Exit.then, Exit.noGoto])
          exact bodyPost_ret (v := .agg #[.int .u8 1, .string t, .slice A L.length c, .string ⟨#[]⟩]) (results_cell_row rfl _ _ _ _ _ _ _ rfl (setRow_heap _ _ _ #[.int .u8 1, .string t, .slice A L.length c, .string ⟨#[]⟩] _ _ HK4.out.c2) Tryz.underlying82 rfl sizeTk) rfl
            (.inr ⟨false, 1, L.map prVal, y, A, L.length, c, HOK.out, rfl, List.length_map _, rfl, HK4.out.went_all.setRow _ _ (Nat.le_refl _) HBT.out, TkR_set (B := w.heap.size) (g := w1.heap.size) (R := w.heap.size) HK4.out.own HG12.out (Nat.le_refl _) 1 (by decide) t⟩)
    by_cases h47 : ∃ y', u2.data.toList = 47 :: 62 :: y'
    · obtain ⟨y', h2⟩ := h47
      obtain ⟨y, hy⟩ := mk_l y'
      have hu3 : u2.data.toList = 47 :: 62 :: y.data.toList := by rw [h2, hy]
      have HOUT : Hid (tagH u1.data.toList = some (true, L.map prVal, y.data.toList)) := Lib.hid (by
        have := hmid
        unfold tagMid at this
        rw [this, tagH_bare (by rw [← hu2]; exact hu3)]
        simp)
      have HT1 : Hid (∀ W, Rd b u2 W → Calls Tryz.prog 112 #[.pointer (some ⟨b, 0, none⟩), .string ⟨#[62]⟩] W fun e w' => e = .returned (.bool false) ∧ Went b u2 W w') := Lib.hid fun W hW => take_no b u2 ⟨#[62]⟩ W hW (pre1 (by rw [hu3]; intro r e; cases e))
      have HT2 : Hid (∀ W, Rd b u2 W → Calls Tryz.prog 112 #[.pointer (some ⟨b, 0, none⟩), .string ⟨#[47, 62]⟩] W fun e w' => e = .returned (.bool true) ∧ Went b y W w') := Lib.hid fun W hW => take_yes b u2 y ⟨#[47, 62]⟩ W hW (by rw [hu3]; rfl)
      clear h2 hy hu3 hu2 hle2 hp2 hq hst hmid hpu hG hbt hnm hlen hg
      cases hfr : fresh [] (L.map prVal) with
      | false =>
        have HFR : Hid ((!fresh [] (L.map prVal)) = true) := Lib.hid (by rw [hfr]; rfl)
        have HERR : Hid (tagOut u1.data.toList = .error 80) := Lib.hid (by rw [tagOut_some HOUT.out, hfr, if_neg (by decide)])
        clear hfr
        go_wp2_with (first
          | (go_at_call 142; (with_reducible refine (HB.out).mono ?_); rintro e2 w2 ⟨rfl, hw2⟩; have HS2 : Hid (TgS w b w.heap.size w1.heap.size t 0 L (.slice A L.length c) u2 w2) := Lib.hid (HST0.out.went HBT.out HG12.out hw2); clear hw2)
          | (go_at_call 112; (with_reducible refine (HT1.out w2 HS2.out.rd).mono ?_); rintro e0 w0 ⟨rfl, hw0⟩; have HS0 : Hid (TgS w b w.heap.size w1.heap.size t 0 L (.slice A L.length c) u2 w0) := Lib.hid (HS2.out.went HBT.out HG12.out hw0); clear hw0)
          | (go_at_call 112; (with_reducible refine (HT2.out w0 HS0.out.rd).mono ?_); rintro e3 w3 ⟨rfl, hw3⟩; have HS3 : Hid (TgS w b w.heap.size w1.heap.size t 0 L (.slice A L.length c) y w3) := Lib.hid (HS0.out.went HBT.out HG12.out hw3); have k03 := HS3.out.cell 0; have k23 := HS3.out.cell 2; have f03 := HS3.out.free 0; have f23 := HS3.out.free 2; have HK : Hid (TgS w b w.heap.size w1.heap.size t 3 L (.slice A L.length c) y (w3.setCell ⟨w1.heap.size, 0, none⟩ (.int .u8 3))) := Lib.hid (HS3.out.kind HBT.out HG12.out (Nat.le_refl _) 3); have kk2 := HK.out.cell 2; clear hw3)
          | (go_at_call 145; (with_reducible refine (HTW.out (w3.setCell ⟨w1.heap.size, 0, none⟩ (.int .u8 3)) 3 y HK.out true HFR.out).mono ?_); rintro e4 w4 ⟨rfl, hb4⟩; have HK4 : Hid (TgS w b w.heap.size w1.heap.size t 3 L (.slice A L.length c) y w4) := Lib.hid (HK.out.below hb4); have k24 := HK4.out.cell 2; clear hb4)
          | fail)
        (try simp only [Exit.inBlock, Exit.then, Exit.noGoto])
        exact ⟨rfl, .inl ⟨80, HERR.out, rfl, _, HK4.out.went_all⟩⟩
      | true =>
        have HFR : Hid ((!fresh [] (L.map prVal)) = false) := Lib.hid (by rw [hfr]; rfl)
        by_cases h16 : 16 < L.length
        · have g16 : decide ((16 : Int) < (L.length : Int)) = true := decide_eq_true (by omega)
          have HERR : Hid (tagOut u1.data.toList = .error 4) := Lib.hid (by rw [tagOut_some HOUT.out, hfr, if_pos rfl, if_pos (by rw [List.length_map]; exact h16)])
          clear hfr h16
          go_wp2_with (first
            | (go_at_call 142; (with_reducible refine (HB.out).mono ?_); rintro e2 w2 ⟨rfl, hw2⟩; have HS2 : Hid (TgS w b w.heap.size w1.heap.size t 0 L (.slice A L.length c) u2 w2) := Lib.hid (HST0.out.went HBT.out HG12.out hw2); clear hw2)
            | (go_at_call 112; (with_reducible refine (HT1.out w2 HS2.out.rd).mono ?_); rintro e0 w0 ⟨rfl, hw0⟩; have HS0 : Hid (TgS w b w.heap.size w1.heap.size t 0 L (.slice A L.length c) u2 w0) := Lib.hid (HS2.out.went HBT.out HG12.out hw0); clear hw0)
            | (go_at_call 112; (with_reducible refine (HT2.out w0 HS0.out.rd).mono ?_); rintro e3 w3 ⟨rfl, hw3⟩; have HS3 : Hid (TgS w b w.heap.size w1.heap.size t 0 L (.slice A L.length c) y w3) := Lib.hid (HS0.out.went HBT.out HG12.out hw3); have k03 := HS3.out.cell 0; have k23 := HS3.out.cell 2; have f03 := HS3.out.free 0; have f23 := HS3.out.free 2; have HK : Hid (TgS w b w.heap.size w1.heap.size t 3 L (.slice A L.length c) y (w3.setCell ⟨w1.heap.size, 0, none⟩ (.int .u8 3))) := Lib.hid (HS3.out.kind HBT.out HG12.out (Nat.le_refl _) 3); have kk2 := HK.out.cell 2; clear hw3)
            | (go_at_call 145; (with_reducible refine (HTW.out (w3.setCell ⟨w1.heap.size, 0, none⟩ (.int .u8 3)) 3 y HK.out false HFR.out).mono ?_); rintro e4 w4 ⟨rfl, hb4⟩; have HK4 : Hid (TgS w b w.heap.size w1.heap.size t 3 L (.slice A L.length c) y w4) := Lib.hid (HK.out.below hb4); have k24 := HK4.out.cell 2; clear hb4)
            | fail)
          (try simp only [Exit.inBlock, Exit.then, Exit.noGoto])
          exact ⟨rfl, .inl ⟨4, HERR.out, rfl, _, HK4.out.went_all⟩⟩
        · have g16 : decide ((16 : Int) < (L.length : Int)) = false := decide_eq_false (by omega)
          have HOK : Hid (tagOut u1.data.toList = .ok (true, L.map prVal, y.data.toList)) := Lib.hid (by rw [tagOut_some HOUT.out, hfr, if_pos rfl, if_neg (by rw [List.length_map]; exact h16)])
          clear hfr h16
          go_wp2_with (first
            | (go_at_call 142; (with_reducible refine (HB.out).mono ?_); rintro e2 w2 ⟨rfl, hw2⟩; have HS2 : Hid (TgS w b w.heap.size w1.heap.size t 0 L (.slice A L.length c) u2 w2) := Lib.hid (HST0.out.went HBT.out HG12.out hw2); clear hw2)
            | (go_at_call 112; (with_reducible refine (HT1.out w2 HS2.out.rd).mono ?_); rintro e0 w0 ⟨rfl, hw0⟩; have HS0 : Hid (TgS w b w.heap.size w1.heap.size t 0 L (.slice A L.length c) u2 w0) := Lib.hid (HS2.out.went HBT.out HG12.out hw0); clear hw0)
            | (go_at_call 112; (with_reducible refine (HT2.out w0 HS0.out.rd).mono ?_); rintro e3 w3 ⟨rfl, hw3⟩; have HS3 : Hid (TgS w b w.heap.size w1.heap.size t 0 L (.slice A L.length c) y w3) := Lib.hid (HS0.out.went HBT.out HG12.out hw3); have k03 := HS3.out.cell 0; have k23 := HS3.out.cell 2; have f03 := HS3.out.free 0; have f23 := HS3.out.free 2; have HK : Hid (TgS w b w.heap.size w1.heap.size t 3 L (.slice A L.length c) y (w3.setCell ⟨w1.heap.size, 0, none⟩ (.int .u8 3))) := Lib.hid (HS3.out.kind HBT.out HG12.out (Nat.le_refl _) 3); have kk2 := HK.out.cell 2; clear hw3)
            | (go_at_call 145; (with_reducible refine (HTW.out (w3.setCell ⟨w1.heap.size, 0, none⟩ (.int .u8 3)) 3 y HK.out false HFR.out).mono ?_); rintro e4 w4 ⟨rfl, hb4⟩; have HK4 : Hid (TgS w b w.heap.size w1.heap.size t 3 L (.slice A L.length c) y w4) := Lib.hid (HK.out.below hb4); have k24 := HK4.out.cell 2; clear hb4)
            | (refine wpList_load_row rfl _ _ rfl w1.heap.size rfl 82 #[.int .u8 3, .string t, .slice A L.length c, .string ⟨#[]⟩] (0, 0) _ HK4.out.c3 Tryz.underlying82 rfl sizeTk ?_)
            | (refine wpList_store_row rfl _ _ _ rfl w.heap.size #[.int .u8 3, .string t, .slice A L.length c, .string ⟨#[]⟩] rfl rfl 82 zTk HK4.out.c2 sizeTk rfl (oneTk _ _ _ _) ?_)
            | fail)
          (try simp only [Exit.inBlock, Exit.then, Exit.noGoto])
          exact bodyPost_ret (v := .agg #[.int .u8 3, .string t, .slice A L.length c, .string ⟨#[]⟩]) (results_cell_row rfl _ _ _ _ _ _ _ rfl (setRow_heap _ _ _ #[.int .u8 3, .string t, .slice A L.length c, .string ⟨#[]⟩] _ _ HK4.out.c2) Tryz.underlying82 rfl sizeTk) rfl
            (.inr ⟨true, 3, L.map prVal, y, A, L.length, c, HOK.out, rfl, List.length_map _, rfl, HK4.out.went_all.setRow _ _ (Nat.le_refl _) HBT.out, TkR_set (B := w.heap.size) (g := w1.heap.size) (R := w.heap.size) HK4.out.own HG12.out (Nat.le_refl _) 3 (by decide) t⟩)
    have hno : noEnd9 (u.data.toList.dropWhile blk) := by
      rw [← hu2]
      refine ⟨fun e => ?_, fun e => ?_⟩
      · cases hc : u2.data.toList with
        | nil => rw [hc] at e; cases e
        | cons d r => rw [hc] at e; injection e with e; exact h62 ⟨r, by rw [hc, e]⟩
      · match hc : u2.data.toList, e with
        | [], e => cases e
        | [d], e => simp at e
        | d :: d2 :: r, e => simp at e; exact h47 ⟨r, by rw [hc, e.1, e.2]⟩
    have HT1 : Hid (∀ W, Rd b u2 W → Calls Tryz.prog 112 #[.pointer (some ⟨b, 0, none⟩), .string ⟨#[62]⟩] W fun e w' => e = .returned (.bool false) ∧ Went b u2 W w') := Lib.hid fun W hW => take_no b u2 ⟨#[62]⟩ W hW (pre1 fun r e => h62 ⟨r, e⟩)
    have HT2 : Hid (∀ W, Rd b u2 W → Calls Tryz.prog 112 #[.pointer (some ⟨b, 0, none⟩), .string ⟨#[47, 62]⟩] W fun e w' => e = .returned (.bool false) ∧ Went b u2 W w') := Lib.hid fun W hW => take_no b u2 ⟨#[47, 62]⟩ W hW (by
      rintro ⟨r, e⟩
      exact h47 ⟨r, e.symm⟩)
    cases q with
    | false =>
      have HERR : Hid (tagOut u1.data.toList = .error 80) := Lib.hid (tagOut_none (by
        have := hmid
        unfold tagMid at this
        rw [this, tagH_none hno (.inl (by rw [← hu2, ba_l, ba_l]; have := of_decide_eq_false hq; omega))]
        rfl))
      clear hu2 hle2 hp2 hq hst hmid hpu hG hbt hnm hlen hg h62 h47 hno
      go_wp2_with (first
        | (go_at_call 142; (with_reducible refine (HB.out).mono ?_); rintro e2 w2 ⟨rfl, hw2⟩; have HS2 : Hid (TgS w b w.heap.size w1.heap.size t 0 L (.slice A L.length c) u2 w2) := Lib.hid (HST0.out.went HBT.out HG12.out hw2); clear hw2)
        | (go_at_call 112; (with_reducible refine (HT1.out w2 HS2.out.rd).mono ?_); rintro e0 w0 ⟨rfl, hw0⟩; have HS0 : Hid (TgS w b w.heap.size w1.heap.size t 0 L (.slice A L.length c) u2 w0) := Lib.hid (HS2.out.went HBT.out HG12.out hw0); clear hw0)
        | (go_at_call 112; (with_reducible refine (HT2.out w0 HS0.out.rd).mono ?_); rintro e4 w4 ⟨rfl, hw4⟩; have HS4 : Hid (TgS w b w.heap.size w1.heap.size t 0 L (.slice A L.length c) u2 w4) := Lib.hid (HS0.out.went HBT.out HG12.out hw4); clear hw4)
        | fail)
      (try simp only [Exit.inBlock, Exit.then, Exit.noGoto])
      exact ⟨rfl, .inl ⟨80, HERR.out, rfl, _, HS4.out.went_all⟩⟩
    | true =>
      have hne : (u.data.toList.dropWhile blk).length ≠ u.data.toList.length := by rw [← hu2, ba_l, ba_l]; have := of_decide_eq_true hq; omega
      cases ha : attrL u2.data.toList with
      | none =>
        have HERR : Hid (tagOut u1.data.toList = .error 80) := Lib.hid (tagOut_none (by
          have := hmid
          unfold tagMid at this
          rw [this, tagH_none hno (.inr (by rw [← hu2]; exact ha))]
          rfl))
        have HAT : Hid (∀ W, At9 b u2 W → Calls Tryz.prog 144 #[.pointer (some ⟨b, 0, none⟩)] W fun e w' => e = Thrown 80 ∧ ∃ u, Went b u W w') := Lib.hid fun W hW => attr_none b u2 W hW ha
        have HAA : Hid (∀ W z, TgS w b w.heap.size w1.heap.size t z L (.slice A L.length c) u2 W → At9 b u2 W.drew) := Lib.hid fun W z hW => At9.below ⟨hW.rd, HEV.out u2 W hW.gr hW.rd, by omega, hp2⟩ (Below.refl _ _).drew
        unfold Thrown at HAT
        clear hu2 hle2 hp2 hq hst hmid hpu hG hbt hnm hlen hg h62 h47 hno hne ha
        go_wp2_with (first
          | (go_at_call 142; (with_reducible refine (HB.out).mono ?_); rintro e2 w2 ⟨rfl, hw2⟩; have HS2 : Hid (TgS w b w.heap.size w1.heap.size t 0 L (.slice A L.length c) u2 w2) := Lib.hid (HST0.out.went HBT.out HG12.out hw2); clear hw2)
          | (go_at_call 112; (with_reducible refine (HT1.out w2 HS2.out.rd).mono ?_); rintro e0 w0 ⟨rfl, hw0⟩; have HS0 : Hid (TgS w b w.heap.size w1.heap.size t 0 L (.slice A L.length c) u2 w0) := Lib.hid (HS2.out.went HBT.out HG12.out hw0); clear hw0)
          | (go_at_call 112; (with_reducible refine (HT2.out w0 HS0.out.rd).mono ?_); rintro e4 w4 ⟨rfl, hw4⟩; have HS4 : Hid (TgS w b w.heap.size w1.heap.size t 0 L (.slice A L.length c) u2 w4) := Lib.hid (HS0.out.went HBT.out HG12.out hw4); clear hw4)
          | fail)
        refine wp_region_Z (fun w' => w'.cell? ⟨w1.heap.size, 2, none⟩ = some (.slice A L.length c)) 7 (by kernel_rfl) ?_
        have hS : w4.drew.cell? ⟨w1.heap.size, 2, none⟩ = some (.slice A L.length c) := HS4.out.cell 2
        refine takeZ (i := 0) (v := .pointer (some ⟨w1.heap.size, 2, none⟩)) rfl (by kernel_rfl) (by kernel_rfl) (by kernel_rfl) (by kernel_rfl) (fun _ _ _ h => h) (Or.inl ⟨by rfl, ?_⟩) hS ?_
        · intro w' hSw; (try dsimp only at hSw); go_simp
        try simp only [Act.put, List.setIfInBounds_toArray, List.set_cons_zero, List.set_cons_succ]
        refine takeZ (i := 1) (v := .slice A L.length c) rfl (by kernel_rfl) (by kernel_rfl) (by kernel_rfl) (by kernel_rfl) (fun _ _ _ h => h) (Or.inl ⟨by rfl, ?_⟩) hS ?_
        · intro w' hSw; (try dsimp only at hSw); go_simp
        try simp only [Act.put, List.setIfInBounds_toArray, List.set_cons_zero, List.set_cons_succ]
        refine takeZ (i := 2) (v := .pointer (some ⟨b, 0, none⟩)) rfl (by kernel_rfl) (by kernel_rfl) (by kernel_rfl) (by kernel_rfl) (fun _ _ _ h => h) (Or.inl ⟨by rfl, ?_⟩) hS ?_
        · intro w' hSw; (try dsimp only at hSw); go_simp
        try simp only [Act.put, List.setIfInBounds_toArray, List.set_cons_zero, List.set_cons_succ]
        refine stepZ (i := 3) (by kernel_rfl) rfl (fun K hK => ?_)
        go_simp
        go_at_call 144; (with_reducible refine (HAT.out _ (HAA.out _ _ HS4.out)).mono ?_); rintro e5 w5 ⟨rfl, u5, hw5⟩
        (try simp only [Exit.inBlock, Exit.then, Exit.noGoto])
        exact ⟨rfl, .inl ⟨80, HERR.out, rfl, _, HS4.out.went_all.trans (Went.after (Below.refl _ _).drew hw5)⟩⟩
      | some p =>
        obtain ⟨⟨pn, pv⟩, y'⟩ := p
        obtain ⟨nm, hnm2⟩ := mk_l pn
        obtain ⟨vl, hvl⟩ := mk_l pv
        obtain ⟨y, hy⟩ := mk_l y'
        subst hnm2 hvl hy
        have hal := attrL_len ha
        dsimp only at hal
        rw [ba_l, ba_l, ba_l] at hal
        have HPY : Hid (isP y.data.toList = true) := Lib.hid (attrL_text ha hp2 (by rw [ba_l]; omega)).2.2.1
        have HNX : Hid (tagMid u1.data.toList y.data.toList ((L ++ [(nm, vl)]).map prVal)) := Lib.hid (by
          rw [List.map_append]
          exact hmid.next (tagH_next hno hne (by rw [← hu2]; exact ha)))
        have HYS : Hid (y.size ≤ gk - 1 ∧ (L.length + 1) + y.size ≤ 16384 ∧ nm.size ≤ 16384 ∧ 0 < gk) := Lib.hid ⟨by omega, by omega, by omega, by omega⟩
        have HLB : Hid (L.length ≤ 16384) := Lib.hid (by omega)
        have HAT : Hid (∀ W, At9 b u2 W → Calls Tryz.prog 144 #[.pointer (some ⟨b, 0, none⟩)] W fun e w' => e = .returned (.agg #[.string nm, .string vl]) ∧ Went b y W w') := Lib.hid fun W hW => attr_some b u2 nm vl y W hW ha
        have HAA : Hid (∀ W z, TgS w b w.heap.size w1.heap.size t z L (.slice A L.length c) u2 W → At9 b u2 W.drew) := Lib.hid fun W z hW => At9.below ⟨hW.rd, HEV.out u2 W hW.gr hW.rd, by omega, hp2⟩ (Below.refl _ _).drew
        clear hu2 hle2 hp2 hq hst hmid hpu hG hbt hnm hlen hg h62 h47 hno hne ha hal
        go_wp2_with (first
          | (go_at_call 142; (with_reducible refine (HB.out).mono ?_); rintro e2 w2 ⟨rfl, hw2⟩; have HS2 : Hid (TgS w b w.heap.size w1.heap.size t 0 L (.slice A L.length c) u2 w2) := Lib.hid (HST0.out.went HBT.out HG12.out hw2); clear hw2)
          | (go_at_call 112; (with_reducible refine (HT1.out w2 HS2.out.rd).mono ?_); rintro e0 w0 ⟨rfl, hw0⟩; have HS0 : Hid (TgS w b w.heap.size w1.heap.size t 0 L (.slice A L.length c) u2 w0) := Lib.hid (HS2.out.went HBT.out HG12.out hw0); clear hw0)
          | (go_at_call 112; (with_reducible refine (HT2.out w0 HS0.out.rd).mono ?_); rintro e4 w4 ⟨rfl, hw4⟩; have HS4 : Hid (TgS w b w.heap.size w1.heap.size t 0 L (.slice A L.length c) u2 w4) := Lib.hid (HS0.out.went HBT.out HG12.out hw4); clear hw4)
          | fail)
        refine wp_region_noPanic ?_
        refine wp_region_Z (fun w' => w'.cell? ⟨w1.heap.size, 2, none⟩ = some (.slice A L.length c)) 7 (by kernel_rfl) ?_
        have hS : w4.drew.cell? ⟨w1.heap.size, 2, none⟩ = some (.slice A L.length c) := HS4.out.cell 2
        refine takeZ (i := 0) (v := .pointer (some ⟨w1.heap.size, 2, none⟩)) rfl (by kernel_rfl) (by kernel_rfl) (by kernel_rfl) (by kernel_rfl) (fun _ _ _ h => h) (Or.inl ⟨by rfl, ?_⟩) hS ?_
        · intro w' hSw; (try dsimp only at hSw); go_simp
        try simp only [Act.put, List.setIfInBounds_toArray, List.set_cons_zero, List.set_cons_succ]
        refine takeZ (i := 1) (v := .slice A L.length c) rfl (by kernel_rfl) (by kernel_rfl) (by kernel_rfl) (by kernel_rfl) (fun _ _ _ h => h) (Or.inl ⟨by rfl, ?_⟩) hS ?_
        · intro w' hSw; (try dsimp only at hSw); go_simp
        try simp only [Act.put, List.setIfInBounds_toArray, List.set_cons_zero, List.set_cons_succ]
        refine takeZ (i := 2) (v := .pointer (some ⟨b, 0, none⟩)) rfl (by kernel_rfl) (by kernel_rfl) (by kernel_rfl) (by kernel_rfl) (fun _ _ _ h => h) (Or.inl ⟨by rfl, ?_⟩) hS ?_
        · intro w' hSw; (try dsimp only at hSw); go_simp
        try simp only [Act.put, List.setIfInBounds_toArray, List.set_cons_zero, List.set_cons_succ]
        refine stepZ (i := 3) (by kernel_rfl) rfl (fun K hK => ?_)
        go_simp
        go_at_call 144; (with_reducible refine (HAT.out _ (HAA.out _ _ HS4.out)).mono ?_); rintro e5 w5 ⟨rfl, hw5⟩
        have HS5 : Hid (TgS w b w.heap.size w1.heap.size t 0 L (.slice A L.length c) y w5) := Lib.hid ((HS4.out.below (Below.refl _ _).drew).went HBT.out HG12.out hw5)
        have c5 : w5.cell? ⟨w1.heap.size, 2, none⟩ = some (.slice A L.length c) := HS5.out.cell 2
        go_wp2_with fail
        refine hK.out _ _ (fun _ => c5) (fun _ => ?_)
        clear hK K hw5
        try simp only [Act.put, List.setIfInBounds_toArray, List.set_cons_zero, List.set_cons_succ]
        refine stepZ (i := 4) (by kernel_rfl) rfl (fun K hK => ?_)
        go_simp
        have cW : (w5.alloc (.cells #[.string nm, .string vl] 119)).cell? ⟨w1.heap.size, 2, none⟩ = some (.slice A L.length c) := (HS5.out.below (stpA (Below.refl _ _) _)).cell 2
        refine hK.out _ _ (fun _ => cW) (fun _ => ?_)
        clear hK K
        try simp only [Act.put, List.setIfInBounds_toArray, List.set_cons_zero, List.set_cons_succ]
        refine stepZ (i := 5) (by kernel_rfl) rfl (fun K hK => ?_)
        refine step_append_lies _ rfl (.tmp 27) (.tmp 30) 80 rfl (w1.heap.size + 1) 119 i0 (.agg #[.string ⟨#[]⟩, .string ⟨#[]⟩]) 2 32 Tryz.underlying80 HI.out HZ0.out HZ1.out HZ2.out rfl (by decide) _ L.length _ rfl (own_belowK HS5.out.own (stpA (Below.refl _ _) _) (Nat.le_refl _)) ⟨w5.heap.size, 0, none⟩ 1 1 [.string nm, .string vl] rfl rfl (new_at w5 [.string nm, .string vl] 119 _ rfl) (by simp [Value.oneCell']) (by decide) (by have := HLB.out; unfold maxLen; omega) (by have := HLB.out; omega) (by have := (Array.getElem?_eq_some_iff.1 HS5.out.c3).1; simp; omega) _ rfl ?_
        intro g6 c6 w6 hown6 hgr6 hor hlt6
        have HP6 := Lib.hid (HS5.out.push HBT.out HG12.out (Nat.le_refl _) hown6 hgr6)
        have h6 : w6.heap[w1.heap.size]? = some (.cells #[.int .u8 0, .string t, .slice A L.length c, .string ⟨#[]⟩] 82 (0, 0)) := by
          have h1 := kept_heap HS5.out.c3 (stpA (Below.refl w5.heap.size w5) (.cells #[.string nm, .string vl] 119))
          exact (hgr6.block _ (Array.getElem?_eq_some_iff.1 h1).1 (fun e => by have := (HS5.out.own.lt _ e.symm).1; omega)).trans h1
        have k6 : w6.cell? ⟨w1.heap.size, 2, none⟩ = some (.slice A L.length c) := cellV w6 _ 2 _ _ _ h6
        have f6 : w6.frozen? ⟨w1.heap.size, 2, none⟩ = false := freeV w6 _ 2 _ _ h6
        clear hown6 hgr6 hor h6
        refine hK.out _ _ (fun _ => k6) (fun _ => ?_)
        clear hK K
        try simp only [Act.put, List.setIfInBounds_toArray, List.set_cons_zero, List.set_cons_succ]
        refine takeZ (i := 6) (v := .pointer (some ⟨w1.heap.size, 2, none⟩)) rfl (by kernel_rfl) (by kernel_rfl) (by kernel_rfl) (by kernel_rfl) (fun _ _ _ h => h) (Or.inl ⟨by rfl, ?_⟩) k6 ?_
        · intro w' hSw; (try dsimp only at hSw); go_simp
        try simp only [Act.put, List.setIfInBounds_toArray, List.set_cons_zero, List.set_cons_succ]
        refine stepZ (i := 7) (by kernel_rfl) rfl (fun K hK => ?_)
        go_simp
        refine hK.out _ _ (fun h => absurd rfl h) (fun _ => ?_)
        clear hK K
        try simp only [Act.put, List.setIfInBounds_toArray, List.set_cons_zero, List.set_cons_succ]
        refine doneZ (by kernel_rfl) ?_ _
        refine NoPanic.normal ?_
        go_wp2_with fail
        go_roundg (gk - 1)
        case rel => exact ⟨L ++ [(nm, vl)], _, y, HYS.out.1, by simpa using HP6.out, HNX.out, by have := HYS.out.2.1; rw [List.length_append]; simpa using this, HPY.out, by
          intro p hp
          rcases List.mem_append.1 hp with hp | hp
          · exact HNM.out p hp
          · rw [List.mem_singleton] at hp
            subst hp
            show nm.data.toList.length ≤ 16384
            rw [ba_l]
            exact HYS.out.2.2.1⟩
        case measure => have := HYS.out.2.2.2; omega
end Hx
end Go.Proofs.YtbjgfaflikgobaaGreatDoor
