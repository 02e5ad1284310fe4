/-
  Texts of one seat, put together: LeaH, LeaI, LeaJ, LeaK.
-/
import Derived.Test.YtlhjcdkkmloamaaGreatDoorSp30
import Derived.Test.YtlhjcdkkmloamaaGreatDoorSp05
import Derived.Test.YtlhjcdkkmloamaaGreatDoorSp08
import Derived.Test.YtlhjcdkkmloamaaGreatDoorSp15
import Derived.Deep.AppendLies
import Derived.Tactics
import Derived.Tactics2
import Derived.Defers
import Derived.Recover
import Derived.Laws.Pointers
set_option linter.unusedSimpArgs false
namespace Go.Proofs.YtlhjcdkkmloamaaGreatDoor
open Go.RowKit
namespace Hx
open Lx Tx Nmb Es
set_option maxRecDepth 100000
set_option maxHeartbeats 16000000
set_option linter.unusedVariables false
theorem beh_w {l : List UInt8} (h : isP l = true) : isP (l.dropWhile wch) = true := by
  have e := (tw_split wch l).1
  rw [e] at h
  exact isP_behind h fun c hc => wch_low ((tw_split wch l).2.1 c hc)
theorem beh_b {l : List UInt8} (h : isP l = true) : isP (l.dropWhile blk) = true := by
  have e := (tw_split blk l).1
  rw [e] at h
  exact isP_behind h fun c hc => blk_low ((tw_split blk l).2.1 c hc)
theorem beh_1 {c : UInt8} {l : List UInt8} (h : isP (c :: l) = true) (hc : c.toNat < 128) : isP l = true := isP_behind (g := [c]) h (by intro d hd; rw [List.mem_singleton] at hd; subst hd; exact hc)
theorem attrL_steps {l : List UInt8} (hf : fullL (l.takeWhile wch) = true) : attrL l = match (l.dropWhile wch).dropWhile blk with
    | [] => none
    | c :: r => if c = 61 then (valL (r.dropWhile blk)).map fun p => (⟨l.takeWhile wch, p.1⟩, p.2) else none := by
  obtain ⟨h1, h2, h3⟩ := (wordL_of l).1 hf
  unfold attrL
  rw [if_neg h2, h3, h1]
  rfl
theorem attrL_nofull {l : List UInt8} (hf : fullL (l.takeWhile wch) = false) : attrL l = none := by
  unfold attrL
  rw [if_pos ((wordL_of l).2 hf)]
theorem shutL_steps {l : List UInt8} (hf : fullL (l.takeWhile wch) = true) : shutL l = match (l.dropWhile wch).dropWhile blk with
    | [] => none
    | c :: r => if c = 62 then some (⟨2, l.takeWhile wch, [], []⟩, r) else none := by
  obtain ⟨h1, h2, h3⟩ := (wordL_of l).1 hf
  unfold shutL
  rw [if_neg h2, h3, h1]
  rfl
theorem shutL_nofull {l : List UInt8} (hf : fullL (l.takeWhile wch) = false) : shutL l = none := by
  unfold shutL
  rw [if_pos ((wordL_of l).2 hf)]
theorem attr_yes (b : Nat) (s t u1 u2 : ByteArray) (u3 u4 v y : ByteArray) (w : World) (h : At9 b s w) (ht : t.data.toList = s.data.toList.takeWhile wch) (hu1 : u1.data.toList = s.data.toList.dropWhile wch) (hf : fullL (s.data.toList.takeWhile wch) = true) (hu2 : u2.data.toList = u1.data.toList.dropWhile blk) (hu3 : u2.data.toList = 61 :: u3.data.toList) (hu4 : u4.data.toList = u3.data.toList.dropWhile blk) (hv : valL u4.data.toList = some (v.data.toList, y.data.toList)) :
    Calls Tryz.prog 88 #[.pointer (some ⟨b, 0, none⟩)] w fun e w' => e = .returned (.agg #[.string t, .string v]) ∧ Went b y w w' := by
  have hz1 : u1.size ≤ s.size := by have := dropWhile_len wch s.data.toList; rw [← hu1, ba_l, ba_l] at this; exact this
  have hz2 : u2.size ≤ u1.size := by have := dropWhile_len blk u1.data.toList; rw [← hu2, ba_l, ba_l] at this; exact this
  have hsz := h.sz
  have hgb : w.heap.size ≠ b := Nat.ne_of_gt h.rd.lt
  have hp2 : isP u2.data.toList = true := by rw [hu2, hu1]; exact beh_b (beh_w h.tx)
  have HF : Hid (∀ o, Calls Tryz.prog 85 #[.pointer (some ⟨b, 0, none⟩)] (w.alloc o) fun e w' => e = .returned (.string t) ∧ Went b u1 (w.alloc o) w') := Lib.hid fun o => full_yes b s t u1 (w.alloc o) (h.alloc o).rd (by omega) ht hu1 (ht ▸ hf)
  have HB1 : Hid (∀ W, Rd b u1 W → Calls Tryz.prog 86 #[.pointer (some ⟨b, 0, none⟩)] W fun e w' => (∃ q, e = .returned (.bool q)) ∧ Went b u2 W w') := Lib.hid fun W hW => blank9_ b u1 u2 W hW (by omega) hu2
  have hz3 : u3.size + 1 = u2.size := by have := size_l hu3; rw [List.length_cons, ba_l] at this; omega
  have hz4 : u4.size ≤ u3.size := by have := dropWhile_len blk u3.data.toList; rw [← hu4, ba_l, ba_l] at this; exact this
  have hp3 : isP u3.data.toList = true := by rw [hu3] at hp2; exact beh_1 hp2 (by decide)
  have HP4 : Hid (isP u4.data.toList = true) := Lib.hid (by rw [hu4]; exact beh_b hp3)
  have HZ4 : Hid (u4.size ≤ 16384) := Lib.hid (by omega)
  have HM : Hid (∀ W, Rd b u2 W → Calls Tryz.prog 87 #[.pointer (some ⟨b, 0, none⟩), .string ⟨#[61]⟩] W fun e w' => e = .returned (.tuple #[]) ∧ Went b u3 W w') := Lib.hid fun W hW => must_yes b u2 u3 ⟨#[61]⟩ W hW (by rw [hu3]; rfl)
  have HB2 : Hid (∀ W, Rd b u3 W → Calls Tryz.prog 86 #[.pointer (some ⟨b, 0, none⟩)] W fun e w' => (∃ q, e = .returned (.bool q)) ∧ Went b u4 W w') := Lib.hid fun W hW => blank9_ b u3 u4 W hW (by omega) hu4
  have HA : Hid (At9 b s (w.alloc (.cells zPr 111))) := Lib.hid (h.alloc _)
  have HGB := Lib.hid hgb
  have HBT : Hid (b < w.heap.size) := h.rd.lt
  have HV : Hid (∀ W, At9 b u4 W → Calls Tryz.prog 102 #[.pointer (some ⟨b, 0, none⟩)] W fun e w' => e = .returned (.string v) ∧ Went b y W w') := Lib.hid fun W hW => value_some b u4 v y W hW hv
  clear h ht hu1 hf hu2 hz1 hz2 hsz hgb hp2 hu3 hu4 hv hz3 hz4 hp3
  have tok1 : True := trivial
  go_enter Tryz.func88, Tryz.ntmps88
  go_wp2_with (first
    | (go_at_call 85; (with_reducible refine (HF.out _).mono ?_); rintro e1 w1 ⟨rfl, hw1⟩; have HW1 : Hid (Went b u1 (w.alloc (.cells zPr 111)) w1) := Lib.hid hw1; clear hw1)
    | (have _t := tok1; go_at_call 86; (with_reducible refine (HB1.out w1 HW1.out.rd).mono ?_); rintro e2 w2 ⟨⟨q2, rfl⟩, hw2⟩; have HW2 : Hid (Went b u2 (w.alloc (.cells zPr 111)) w2) := Lib.hid (HW1.out.trans hw2); clear hw2; clear _t tok1)
    | (go_at_call 87; (with_reducible refine (HM.out w2 HW2.out.rd).mono ?_); rintro e3 w3 ⟨rfl, hw3⟩; have HW3 : Hid (Went b u3 (w.alloc (.cells zPr 111)) w3) := Lib.hid (HW2.out.trans hw3); clear hw3)
    | (go_at_call 86; (with_reducible refine (HB2.out w3 HW3.out.rd).mono ?_); rintro e4 w4 ⟨⟨q4, rfl⟩, hw4⟩; have HW4 : Hid (Went b u4 (w.alloc (.cells zPr 111)) w4) := Lib.hid (HW3.out.trans hw4); clear hw4)
    | (go_at_call 102; (with_reducible refine (HV.out w4 (HA.out.next HW4.out HP4.out HZ4.out)).mono ?_); rintro e5 w5 ⟨rfl, hw5⟩; have HW5 : Hid (Went b y (w.alloc (.cells zPr 111)) w5) := Lib.hid (HW4.out.trans hw5); have HG5 := Lib.hid (HW5.out.heap (heap_alloc_new w (.cells zPr 111)) HGB.out); clear hw5)
    | (refine wpList_store_row rfl _ _ _ rfl w.heap.size #[.string t, .string v] rfl rfl 111 zPr HG5.out sizePr rfl (onePr _ _) ?_)
    | fail)
  exact bodyPost_ret (v := .agg #[.string t, .string v]) (results_cell_row rfl _ _ _ _ _ _ _ rfl (setRow_heap _ _ _ #[.string t, .string v] _ _ HG5.out) Tryz.underlying111 rfl sizePr) rfl ⟨rfl, (Went.after (stpA (Below.refl _ _) _) HW5.out).setRow _ _ (Nat.le_refl _) HBT.out⟩
theorem attr_val (b : Nat) (s t u1 u2 : ByteArray) (u3 u4 : ByteArray) (w : World) (h : At9 b s w) (ht : t.data.toList = s.data.toList.takeWhile wch) (hu1 : u1.data.toList = s.data.toList.dropWhile wch) (hf : fullL (s.data.toList.takeWhile wch) = true) (hu2 : u2.data.toList = u1.data.toList.dropWhile blk) (hu3 : u2.data.toList = 61 :: u3.data.toList) (hu4 : u4.data.toList = u3.data.toList.dropWhile blk) (hv : valL u4.data.toList = none) :
    Calls Tryz.prog 88 #[.pointer (some ⟨b, 0, none⟩)] w fun e w' => e = Thrown 80 ∧ ∃ u, Went b u w w' := by
  have hz1 : u1.size ≤ s.size := by have := dropWhile_len wch s.data.toList; rw [← hu1, ba_l, ba_l] at this; exact this
  have hz2 : u2.size ≤ u1.size := by have := dropWhile_len blk u1.data.toList; rw [← hu2, ba_l, ba_l] at this; exact this
  have hsz := h.sz
  have hgb : w.heap.size ≠ b := Nat.ne_of_gt h.rd.lt
  have hp2 : isP u2.data.toList = true := by rw [hu2, hu1]; exact beh_b (beh_w h.tx)
  have HF : Hid (∀ o, Calls Tryz.prog 85 #[.pointer (some ⟨b, 0, none⟩)] (w.alloc o) fun e w' => e = .returned (.string t) ∧ Went b u1 (w.alloc o) w') := Lib.hid fun o => full_yes b s t u1 (w.alloc o) (h.alloc o).rd (by omega) ht hu1 (ht ▸ hf)
  have HB1 : Hid (∀ W, Rd b u1 W → Calls Tryz.prog 86 #[.pointer (some ⟨b, 0, none⟩)] W fun e w' => (∃ q, e = .returned (.bool q)) ∧ Went b u2 W w') := Lib.hid fun W hW => blank9_ b u1 u2 W hW (by omega) hu2
  have hz3 : u3.size + 1 = u2.size := by have := size_l hu3; rw [List.length_cons, ba_l] at this; omega
  have hz4 : u4.size ≤ u3.size := by have := dropWhile_len blk u3.data.toList; rw [← hu4, ba_l, ba_l] at this; exact this
  have hp3 : isP u3.data.toList = true := by rw [hu3] at hp2; exact beh_1 hp2 (by decide)
  have HP4 : Hid (isP u4.data.toList = true) := Lib.hid (by rw [hu4]; exact beh_b hp3)
  have HZ4 : Hid (u4.size ≤ 16384) := Lib.hid (by omega)
  have HM : Hid (∀ W, Rd b u2 W → Calls Tryz.prog 87 #[.pointer (some ⟨b, 0, none⟩), .string ⟨#[61]⟩] W fun e w' => e = .returned (.tuple #[]) ∧ Went b u3 W w') := Lib.hid fun W hW => must_yes b u2 u3 ⟨#[61]⟩ W hW (by rw [hu3]; rfl)
  have HB2 : Hid (∀ W, Rd b u3 W → Calls Tryz.prog 86 #[.pointer (some ⟨b, 0, none⟩)] W fun e w' => (∃ q, e = .returned (.bool q)) ∧ Went b u4 W w') := Lib.hid fun W hW => blank9_ b u3 u4 W hW (by omega) hu4
  have HA : Hid (At9 b s (w.alloc (.cells zPr 111))) := Lib.hid (h.alloc _)
  have HGB := Lib.hid hgb
  have HV : Hid (∀ W, At9 b u4 W → Calls Tryz.prog 102 #[.pointer (some ⟨b, 0, none⟩)] W fun e w' => e = Thrown 80 ∧ ∃ u, Went b u W w') := Lib.hid fun W hW => value_none b u4 W hW hv
  unfold Thrown at HV ⊢
  clear h ht hu1 hf hu2 hz1 hz2 hsz hgb hp2 hu3 hu4 hv hz3 hz4 hp3
  have tok1 : True := trivial
  go_enter Tryz.func88, Tryz.ntmps88
  go_wp2_with (first
    | (go_at_call 85; (with_reducible refine (HF.out _).mono ?_); rintro e1 w1 ⟨rfl, hw1⟩; have HW1 : Hid (Went b u1 (w.alloc (.cells zPr 111)) w1) := Lib.hid hw1; clear hw1)
    | (have _t := tok1; go_at_call 86; (with_reducible refine (HB1.out w1 HW1.out.rd).mono ?_); rintro e2 w2 ⟨⟨q2, rfl⟩, hw2⟩; have HW2 : Hid (Went b u2 (w.alloc (.cells zPr 111)) w2) := Lib.hid (HW1.out.trans hw2); clear hw2; clear _t tok1)
    | (go_at_call 87; (with_reducible refine (HM.out w2 HW2.out.rd).mono ?_); rintro e3 w3 ⟨rfl, hw3⟩; have HW3 : Hid (Went b u3 (w.alloc (.cells zPr 111)) w3) := Lib.hid (HW2.out.trans hw3); clear hw3)
    | (go_at_call 86; (with_reducible refine (HB2.out w3 HW3.out.rd).mono ?_); rintro e4 w4 ⟨⟨q4, rfl⟩, hw4⟩; have HW4 : Hid (Went b u4 (w.alloc (.cells zPr 111)) w4) := Lib.hid (HW3.out.trans hw4); clear hw4)
    | (go_at_call 102; (with_reducible refine (HV.out w4 (HA.out.next HW4.out HP4.out HZ4.out)).mono ?_); rintro e5 w5 ⟨rfl, u5, hw5⟩)
    | fail)
  (try simp only [Exit.inBlock, Exit.then])
  exact ⟨rfl, rfl, _, Went.after (stpA (Below.refl _ _) _) (HW4.out.trans hw5)⟩
theorem attr_eq (b : Nat) (s t u1 u2 : ByteArray)  (w : World) (h : At9 b s w) (ht : t.data.toList = s.data.toList.takeWhile wch) (hu1 : u1.data.toList = s.data.toList.dropWhile wch) (hf : fullL (s.data.toList.takeWhile wch) = true) (hu2 : u2.data.toList = u1.data.toList.dropWhile blk) (hu3 : ∀ r, u2.data.toList ≠ 61 :: r) :
    Calls Tryz.prog 88 #[.pointer (some ⟨b, 0, none⟩)] w fun e w' => e = Thrown 80 ∧ ∃ u, Went b u w w' := by
  have hz1 : u1.size ≤ s.size := by have := dropWhile_len wch s.data.toList; rw [← hu1, ba_l, ba_l] at this; exact this
  have hz2 : u2.size ≤ u1.size := by have := dropWhile_len blk u1.data.toList; rw [← hu2, ba_l, ba_l] at this; exact this
  have hsz := h.sz
  have hgb : w.heap.size ≠ b := Nat.ne_of_gt h.rd.lt
  have hp2 : isP u2.data.toList = true := by rw [hu2, hu1]; exact beh_b (beh_w h.tx)
  have HF : Hid (∀ o, Calls Tryz.prog 85 #[.pointer (some ⟨b, 0, none⟩)] (w.alloc o) fun e w' => e = .returned (.string t) ∧ Went b u1 (w.alloc o) w') := Lib.hid fun o => full_yes b s t u1 (w.alloc o) (h.alloc o).rd (by omega) ht hu1 (ht ▸ hf)
  have HB1 : Hid (∀ W, Rd b u1 W → Calls Tryz.prog 86 #[.pointer (some ⟨b, 0, none⟩)] W fun e w' => (∃ q, e = .returned (.bool q)) ∧ Went b u2 W w') := Lib.hid fun W hW => blank9_ b u1 u2 W hW (by omega) hu2
  have HM : Hid (∀ W, Rd b u2 W → Calls Tryz.prog 87 #[.pointer (some ⟨b, 0, none⟩), .string ⟨#[61]⟩] W fun e w' => e = Thrown 80 ∧ Went b u2 W w') := Lib.hid fun W hW => must_no b u2 ⟨#[61]⟩ W hW (pre1 hu3)
  unfold Thrown at HM ⊢
  clear h ht hu1 hf hu2 hz1 hz2 hsz hgb hp2 hu3
  have tok1 : True := trivial
  go_enter Tryz.func88, Tryz.ntmps88
  go_wp2_with (first
    | (go_at_call 85; (with_reducible refine (HF.out _).mono ?_); rintro e1 w1 ⟨rfl, hw1⟩; have HW1 : Hid (Went b u1 (w.alloc (.cells zPr 111)) w1) := Lib.hid hw1; clear hw1)
    | (have _t := tok1; go_at_call 86; (with_reducible refine (HB1.out w1 HW1.out.rd).mono ?_); rintro e2 w2 ⟨⟨q2, rfl⟩, hw2⟩; have HW2 : Hid (Went b u2 (w.alloc (.cells zPr 111)) w2) := Lib.hid (HW1.out.trans hw2); clear hw2; clear _t tok1)
    | (go_at_call 87; (with_reducible refine (HM.out w2 HW2.out.rd).mono ?_); rintro e3 w3 ⟨rfl, hw3⟩)
    | fail)
  (try simp only [Exit.inBlock, Exit.then])
  exact ⟨rfl, rfl, _, Went.after (stpA (Below.refl _ _) _) (HW2.out.trans hw3)⟩
theorem attr_word (b : Nat) (s : ByteArray) (w : World) (h : At9 b s w) (hf : fullL (s.data.toList.takeWhile wch) = false) :
    Calls Tryz.prog 88 #[.pointer (some ⟨b, 0, none⟩)] w fun e w' => e = Thrown 80 ∧ ∃ u, Went b u w w' := by
  have hsz := h.sz
  have HF : Hid (∀ o, Calls Tryz.prog 85 #[.pointer (some ⟨b, 0, none⟩)] (w.alloc o) fun e w' => e = Thrown 80 ∧ ∃ u, Went b u (w.alloc o) w') := Lib.hid fun o => full_no b s (w.alloc o) (h.alloc o).rd (by omega) hf
  unfold Thrown at HF ⊢
  clear h hf hsz
  go_enter Tryz.func88, Tryz.ntmps88
  go_wp2_with (first
    | (go_at_call 85; (with_reducible refine (HF.out _).mono ?_); rintro e1 w1 ⟨rfl, u1, hw1⟩)
    | fail)
  (try simp only [Exit.inBlock, Exit.then])
  exact ⟨rfl, rfl, _, Went.after (stpA (Below.refl _ _) _) hw1⟩
theorem attr_some (b : Nat) (s nm v y : ByteArray) (w : World) (h : At9 b s w) (ha : attrL s.data.toList = some (⟨nm.data.toList, v.data.toList⟩, y.data.toList)) :
    Calls Tryz.prog 88 #[.pointer (some ⟨b, 0, none⟩)] w fun e w' => e = .returned (.agg #[.string nm, .string v]) ∧ Went b y w w' := by
  cases hf : fullL (s.data.toList.takeWhile wch) with
  | false => rw [attrL_nofull hf] at ha; cases ha
  | true =>
    rw [attrL_steps hf] at ha
    obtain ⟨t, ht⟩ := mk_l (s.data.toList.takeWhile wch)
    obtain ⟨u1, hu1⟩ := mk_l (s.data.toList.dropWhile wch)
    obtain ⟨u2, hu2⟩ := mk_l (u1.data.toList.dropWhile blk)
    rw [← hu1, ← hu2] at ha
    cases h2 : u2.data.toList with
    | nil => rw [h2] at ha; cases ha
    | cons c r =>
      rw [h2] at ha
      dsimp only at ha
      by_cases hc : c = 61
      · subst hc
        rw [if_pos rfl] at ha
        obtain ⟨u3, hu3⟩ := mk_l r
        obtain ⟨u4, hu4⟩ := mk_l (u3.data.toList.dropWhile blk)
        rw [← hu3, ← hu4] at ha
        cases hv : valL u4.data.toList with
        | none => rw [hv] at ha; cases ha
        | some p =>
          rw [hv] at ha
          obtain ⟨e1, e2⟩ := (Prod.mk.injEq _ _ _ _).mp (Option.some.inj ha)
          injection e1 with e3 e4
          rw [← ht] at e3
          obtain rfl := ba_x e3
          exact attr_yes b s t u1 u2 u3 u4 v y w h ht hu1 hf hu2 (by rw [h2, hu3]) hu4 (by rw [hv, ← e4, ← e2])
      · rw [if_neg hc] at ha; cases ha
theorem attr_none (b : Nat) (s : ByteArray) (w : World) (h : At9 b s w) (ha : attrL s.data.toList = none) :
    Calls Tryz.prog 88 #[.pointer (some ⟨b, 0, none⟩)] w fun e w' => e = Thrown 80 ∧ ∃ u, Went b u w w' := by
  cases hf : fullL (s.data.toList.takeWhile wch) with
  | false => exact attr_word b s w h hf
  | true =>
    rw [attrL_steps hf] at ha
    obtain ⟨t, ht⟩ := mk_l (s.data.toList.takeWhile wch)
    obtain ⟨u1, hu1⟩ := mk_l (s.data.toList.dropWhile wch)
    obtain ⟨u2, hu2⟩ := mk_l (u1.data.toList.dropWhile blk)
    rw [← hu1, ← hu2] at ha
    by_cases h2 : ∃ r, u2.data.toList = 61 :: r
    · obtain ⟨r, h2⟩ := h2
      rw [h2] at ha
      dsimp only at ha
      rw [if_pos rfl] at ha
      obtain ⟨u3, hu3⟩ := mk_l r
      obtain ⟨u4, hu4⟩ := mk_l (u3.data.toList.dropWhile blk)
      rw [← hu3, ← hu4] at ha
      exact attr_val b s t u1 u2 u3 u4 w h ht hu1 hf hu2 (by rw [h2, hu3]) hu4 (by
        cases hv : valL u4.data.toList with
        | none => rfl
        | some p => rw [hv] at ha; cases ha)
    · exact attr_eq b s t u1 u2 w h ht hu1 hf hu2 fun r e => h2 ⟨r, e⟩
theorem shut_yes (b : Nat) (s t u1 u2 : ByteArray) (u3 : ByteArray) (w : World) (h : At9 b s w) (ht : t.data.toList = s.data.toList.takeWhile wch) (hu1 : u1.data.toList = s.data.toList.dropWhile wch) (hf : fullL (s.data.toList.takeWhile wch) = true) (hu2 : u2.data.toList = u1.data.toList.dropWhile blk) (hu3 : u2.data.toList = 62 :: u3.data.toList) :
    Calls Tryz.prog 70 #[.pointer (some ⟨b, 0, none⟩)] w fun e w' => e = .returned (.agg #[.int .u8 2, .string t, .slice none 0 0, .string ⟨#[]⟩]) ∧ Went b u3 w w' := by
  have hz1 : u1.size ≤ s.size := by have := dropWhile_len wch s.data.toList; rw [← hu1, ba_l, ba_l] at this; exact this
  have hz2 : u2.size ≤ u1.size := by have := dropWhile_len blk u1.data.toList; rw [← hu2, ba_l, ba_l] at this; exact this
  have hsz := h.sz
  have hgb : w.heap.size ≠ b := Nat.ne_of_gt h.rd.lt
  have hp2 : isP u2.data.toList = true := by rw [hu2, hu1]; exact beh_b (beh_w h.tx)
  have HF : Hid (∀ o, Calls Tryz.prog 85 #[.pointer (some ⟨b, 0, none⟩)] (w.alloc o) fun e w' => e = .returned (.string t) ∧ Went b u1 (w.alloc o) w') := Lib.hid fun o => full_yes b s t u1 (w.alloc o) (h.alloc o).rd (by omega) ht hu1 (ht ▸ hf)
  have HB1 : Hid (∀ W, Rd b u1 W → Calls Tryz.prog 86 #[.pointer (some ⟨b, 0, none⟩)] W fun e w' => (∃ q, e = .returned (.bool q)) ∧ Went b u2 W w') := Lib.hid fun W hW => blank9_ b u1 u2 W hW (by omega) hu2
  have HGB := Lib.hid hgb
  have HBT : Hid (b < w.heap.size) := h.rd.lt
  have HM : Hid (∀ W, Rd b u2 W → Calls Tryz.prog 87 #[.pointer (some ⟨b, 0, none⟩), .string ⟨#[62]⟩] W fun e w' => e = .returned (.tuple #[]) ∧ Went b u3 W w') := Lib.hid fun W hW => must_yes b u2 u3 ⟨#[62]⟩ W hW (by rw [hu3]; rfl)
  clear h ht hu1 hf hu2 hz1 hz2 hsz hgb hp2 hu3
  go_enter Tryz.func70, Tryz.ntmps70
  go_wp2_with (first
    | (go_at_call 85; (with_reducible refine (HF.out _).mono ?_); rintro e1 w1 ⟨rfl, hw1⟩; have HW1 : Hid (Went b u1 (w.alloc (.cells zTk 84)) w1) := Lib.hid hw1; clear hw1)
    | (refine wpList_store_row rfl _ _ _ rfl w1.heap.size #[.int .u8 2, .string t, .slice none 0 0, .string ⟨#[]⟩] rfl rfl 84 zTk (heap_alloc_new _ _) sizeTk rfl (oneTk _ _ _ _) ?_; rw [World.setRow_alloc_new])
    | (go_at_call 86; (with_reducible refine (HB1.out _ (HW1.out.rd.below (stpA (Below.refl _ _) _))).mono ?_); rintro e2 w2 ⟨⟨q2, rfl⟩, hw2⟩; have HX2 : Hid (Went b u2 (w1.alloc (.cells #[.int .u8 2, .string t, .slice none 0 0, .string ⟨#[]⟩] 84)) w2) := Lib.hid hw2; have HW2 : Hid (Went b u2 (w.alloc (.cells zTk 84)) w2) := Lib.hid (HW1.out.trans (Went.after (stpA (Below.refl _ _) _) hw2)); clear hw2)
    | (go_at_call 87; (with_reducible refine (HM.out w2 HW2.out.rd).mono ?_); rintro e3 w3 ⟨rfl, hw3⟩; have HW3 : Hid (Went b u3 (w.alloc (.cells zTk 84)) w3) := Lib.hid (HW2.out.trans hw3); have HX3 : Hid (Went b u3 (w1.alloc (.cells #[.int .u8 2, .string t, .slice none 0 0, .string ⟨#[]⟩] 84)) w3) := Lib.hid (HX2.out.trans hw3); have HG3 := Lib.hid (HW3.out.heap (heap_alloc_new w (.cells zTk 84)) HGB.out); have HL3 := Lib.hid (HX3.out.heap (heap_alloc_new w1 (.cells #[.int .u8 2, .string t, .slice none 0 0, .string ⟨#[]⟩] 84)) (Nat.ne_of_gt HW1.out.rd.lt)); clear hw3)
    | (refine wpList_load_row rfl _ _ rfl w1.heap.size rfl 84 #[.int .u8 2, .string t, .slice none 0 0, .string ⟨#[]⟩] (0, 0) _ HL3.out Tryz.underlying84 rfl sizeTk ?_)
    | (refine wpList_store_row rfl _ _ _ rfl w.heap.size #[.int .u8 2, .string t, .slice none 0 0, .string ⟨#[]⟩] rfl rfl 84 zTk HG3.out sizeTk rfl (oneTk _ _ _ _) ?_)
    | fail)
  exact bodyPost_ret (v := .agg #[.int .u8 2, .string t, .slice none 0 0, .string ⟨#[]⟩]) (results_cell_row rfl _ _ _ _ _ _ _ rfl (setRow_heap _ _ _ #[.int .u8 2, .string t, .slice none 0 0, .string ⟨#[]⟩] _ _ HG3.out) Tryz.underlying84 rfl sizeTk) rfl ⟨rfl, (Went.after (stpA (Below.refl _ _) _) HW3.out).setRow _ _ (Nat.le_refl _) HBT.out⟩
theorem shut_gt (b : Nat) (s t u1 u2 : ByteArray)  (w : World) (h : At9 b s w) (ht : t.data.toList = s.data.toList.takeWhile wch) (hu1 : u1.data.toList = s.data.toList.dropWhile wch) (hf : fullL (s.data.toList.takeWhile wch) = true) (hu2 : u2.data.toList = u1.data.toList.dropWhile blk) (hu3 : ∀ r, u2.data.toList ≠ 62 :: r) :
    Calls Tryz.prog 70 #[.pointer (some ⟨b, 0, none⟩)] w fun e w' => e = Thrown 80 ∧ ∃ u, Went b u w w' := by
  have hz1 : u1.size ≤ s.size := by have := dropWhile_len wch s.data.toList; rw [← hu1, ba_l, ba_l] at this; exact this
  have hz2 : u2.size ≤ u1.size := by have := dropWhile_len blk u1.data.toList; rw [← hu2, ba_l, ba_l] at this; exact this
  have hsz := h.sz
  have hgb : w.heap.size ≠ b := Nat.ne_of_gt h.rd.lt
  have hp2 : isP u2.data.toList = true := by rw [hu2, hu1]; exact beh_b (beh_w h.tx)
  have HF : Hid (∀ o, Calls Tryz.prog 85 #[.pointer (some ⟨b, 0, none⟩)] (w.alloc o) fun e w' => e = .returned (.string t) ∧ Went b u1 (w.alloc o) w') := Lib.hid fun o => full_yes b s t u1 (w.alloc o) (h.alloc o).rd (by omega) ht hu1 (ht ▸ hf)
  have HB1 : Hid (∀ W, Rd b u1 W → Calls Tryz.prog 86 #[.pointer (some ⟨b, 0, none⟩)] W fun e w' => (∃ q, e = .returned (.bool q)) ∧ Went b u2 W w') := Lib.hid fun W hW => blank9_ b u1 u2 W hW (by omega) hu2
  have HM : Hid (∀ W, Rd b u2 W → Calls Tryz.prog 87 #[.pointer (some ⟨b, 0, none⟩), .string ⟨#[62]⟩] W fun e w' => e = Thrown 80 ∧ Went b u2 W w') := Lib.hid fun W hW => must_no b u2 ⟨#[62]⟩ W hW (pre1 hu3)
  unfold Thrown at HM ⊢
  clear h ht hu1 hf hu2 hz1 hz2 hsz hgb hp2 hu3
  go_enter Tryz.func70, Tryz.ntmps70
  go_wp2_with (first
    | (go_at_call 85; (with_reducible refine (HF.out _).mono ?_); rintro e1 w1 ⟨rfl, hw1⟩; have HW1 : Hid (Went b u1 (w.alloc (.cells zTk 84)) w1) := Lib.hid hw1; clear hw1)
    | (refine wpList_store_row rfl _ _ _ rfl w1.heap.size #[.int .u8 2, .string t, .slice none 0 0, .string ⟨#[]⟩] rfl rfl 84 zTk (heap_alloc_new _ _) sizeTk rfl (oneTk _ _ _ _) ?_; rw [World.setRow_alloc_new])
    | (go_at_call 86; (with_reducible refine (HB1.out _ (HW1.out.rd.below (stpA (Below.refl _ _) _))).mono ?_); rintro e2 w2 ⟨⟨q2, rfl⟩, hw2⟩; have HX2 : Hid (Went b u2 (w1.alloc (.cells #[.int .u8 2, .string t, .slice none 0 0, .string ⟨#[]⟩] 84)) w2) := Lib.hid hw2; have HW2 : Hid (Went b u2 (w.alloc (.cells zTk 84)) w2) := Lib.hid (HW1.out.trans (Went.after (stpA (Below.refl _ _) _) hw2)); clear hw2)
    | (go_at_call 87; (with_reducible refine (HM.out w2 HW2.out.rd).mono ?_); rintro e3 w3 ⟨rfl, hw3⟩)
    | fail)
  (try simp only [Exit.inBlock, Exit.then])
  exact ⟨rfl, rfl, _, Went.after (stpA (Below.refl _ _) _) (HW2.out.trans hw3)⟩
theorem shut_word (b : Nat) (s : ByteArray) (w : World) (h : At9 b s w) (hf : fullL (s.data.toList.takeWhile wch) = false) :
    Calls Tryz.prog 70 #[.pointer (some ⟨b, 0, none⟩)] w fun e w' => e = Thrown 80 ∧ ∃ u, Went b u w w' := by
  have hsz := h.sz
  have HF : Hid (∀ o, Calls Tryz.prog 85 #[.pointer (some ⟨b, 0, none⟩)] (w.alloc o) fun e w' => e = Thrown 80 ∧ ∃ u, Went b u (w.alloc o) w') := Lib.hid fun o => full_no b s (w.alloc o) (h.alloc o).rd (by omega) hf
  unfold Thrown at HF ⊢
  clear h hf hsz
  go_enter Tryz.func70, Tryz.ntmps70
  go_wp2_with (first
    | (go_at_call 85; (with_reducible refine (HF.out _).mono ?_); rintro e1 w1 ⟨rfl, u1, hw1⟩)
    | fail)
  (try simp only [Exit.inBlock, Exit.then])
  exact ⟨rfl, rfl, _, Went.after (stpA (Below.refl _ _) _) hw1⟩
theorem shut_some (b : Nat) (s t y : ByteArray) (w : World) (h : At9 b s w) (ha : shutL s.data.toList = some (⟨2, t.data.toList, [], []⟩, y.data.toList)) :
    Calls Tryz.prog 70 #[.pointer (some ⟨b, 0, none⟩)] w fun e w' => e = .returned (.agg #[.int .u8 2, .string t, .slice none 0 0, .string ⟨#[]⟩]) ∧ Went b y w w' := by
  cases hf : fullL (s.data.toList.takeWhile wch) with
  | false => rw [shutL_nofull hf] at ha; cases ha
  | true =>
    rw [shutL_steps hf] at ha
    obtain ⟨x, hx⟩ := mk_l (s.data.toList.takeWhile wch)
    obtain ⟨u1, hu1⟩ := mk_l (s.data.toList.dropWhile wch)
    obtain ⟨u2, hu2⟩ := mk_l (u1.data.toList.dropWhile blk)
    rw [← hu1, ← hu2, ← hx] at ha
    cases h2 : u2.data.toList with
    | nil => rw [h2] at ha; cases ha
    | cons c r =>
      rw [h2] at ha
      dsimp only at ha
      by_cases hc : c = 62
      · subst hc
        rw [if_pos rfl] at ha
        obtain ⟨e1, e2⟩ := (Prod.mk.injEq _ _ _ _).mp (Option.some.inj ha)
        injection e1 with _ e3
        obtain rfl := ba_x e3
        exact shut_yes b s x u1 u2 y w h hx hu1 hf hu2 (by rw [h2, e2])
      · rw [if_neg hc] at ha; cases ha
theorem shut_none (b : Nat) (s : ByteArray) (w : World) (h : At9 b s w) (ha : shutL s.data.toList = none) :
    Calls Tryz.prog 70 #[.pointer (some ⟨b, 0, none⟩)] w fun e w' => e = Thrown 80 ∧ ∃ u, Went b u w w' := by
  cases hf : fullL (s.data.toList.takeWhile wch) with
  | false => exact shut_word b s w h hf
  | true =>
    rw [shutL_steps hf] at ha
    obtain ⟨x, hx⟩ := mk_l (s.data.toList.takeWhile wch)
    obtain ⟨u1, hu1⟩ := mk_l (s.data.toList.dropWhile wch)
    obtain ⟨u2, hu2⟩ := mk_l (u1.data.toList.dropWhile blk)
    rw [← hu1, ← hu2] at ha
    refine shut_gt b s x u1 u2 w h hx hu1 hf hu2 fun r e => ?_
    rw [e] at ha
    dsimp only at ha
    rw [if_pos rfl] at ha
    cases ha
end Hx
end Go.Proofs.YtlhjcdkkmloamaaGreatDoor
namespace Go.Proofs.YtlhjcdkkmloamaaGreatDoor
open Go.RowKit
namespace Hx
open Lx Tx Nmb Es
set_option maxRecDepth 100000
set_option maxHeartbeats 16000000
set_option linter.unusedVariables false
set_option linter.unusedSimpArgs false
def tagOut (l : List UInt8) : Except Int (Bool × List Pr × List UInt8) := match tagH l with
  | none => .error 80
  | some (b, m, x) => if fresh [] m = true then (if 16 < m.length then .error 4 else .ok (b, m, x)) else .error 80
structure TgS (w : World) (b g2 g3 : Nat) (t : ByteArray) (z : Int) (L : List PB) (v : Value) (u : ByteArray) (wr : World) : Prop where
  gr : w.grownBy wr (some b)
  rd : Rd b u wr
  c2 : wr.heap[g2]? = some (.cells zTk 84 (0, 0))
  c3 : wr.heap[g3]? = some (.cells #[.int .u8 z, .string t, v, .string ⟨#[]⟩] 84 (0, 0))
  own : wr.ownsRow (g3 + 1) 111 2 v L.length (L.flatMap prCells)
section
variable {w : World} {b g2 g3 : Nat} {t : ByteArray} {z : Int} {L : List PB} {v : Value} {u : ByteArray} {wr : World}
theorem TgS.went (h : TgS w b g2 g3 t z L v u wr) (hb : b < g2) (hg : g2 < g3) {u' : ByteArray} {wr' : World} (k : Went b u' wr wr') : TgS w b g2 g3 t z L v u' wr' :=
  ⟨h.gr.trans k.gr, k.rd, k.heap h.c2 (by omega), k.heap h.c3 (by omega), h.own.kept k.gr (by
    cases hv : v.ownBlock with
    | none => exact .inl rfl
    | some q =>
      right
      intro e
      have := (h.own.lt q hv).1
      injection e with e
      omega)⟩
theorem TgS.below (h : TgS w b g2 g3 t z L v u wr) {wr' : World} (k : Below wr.heap.size wr wr') : TgS w b g2 g3 t z L v u wr' :=
  ⟨h.gr.trans (grown_below k _), h.rd.below k, kept_heap h.c2 k, kept_heap h.c3 k, own_belowK h.own k (Nat.le_refl _)⟩
theorem TgS.cell (h : TgS w b g2 g3 t z L v u wr) (k : Nat) : wr.cell? ⟨g3, k, none⟩ = (#[.int .u8 z, .string t, v, .string ⟨#[]⟩] : Array Value)[k]? := cellV wr g3 k _ _ _ h.c3
theorem TgS.free (h : TgS w b g2 g3 t z L v u wr) (k : Nat) : wr.frozen? ⟨g3, k, none⟩ = false := freeV wr g3 k _ _ h.c3
theorem set_same9 (w : World) (g k : Nat) (cs : Array Value) (T : TypeId) (x : Value) (h : w.heap[g]? = some (.cells cs T (0, 0))) : (w.setCell ⟨g, k, none⟩ x).heap[g]? = some (.cells (cs.setIfInBounds k x) T (0, 0)) := by
  simp [World.setCell, Array.getElem?_modify, h]
theorem TgS.kind (h : TgS w b g2 g3 t z L v u wr) (hb : b < g2) (hg : g2 < g3) (hw : w.heap.size ≤ g2) (z' : Int) : TgS w b g2 g3 t z' L v u (wr.setCell ⟨g3, 0, none⟩ (.int .u8 z')) := by
  refine ⟨⟨h.gr.os, h.gr.tape, h.gr.output, by have := h.gr.size; simpa [World.setCell] using this, fun k hk hne => (set_other wr g3 0 k _ (by omega)).trans (h.gr.block k hk hne)⟩, (set_other wr g3 0 b _ (by omega)).trans h.rd, (set_other wr g3 0 g2 _ (by omega)).trans h.c2, ?_, own_setCell h.own g3 0 (by omega) _⟩
  have := set_same9 wr g3 0 _ _ (.int .u8 z') h.c3
  simpa using this
theorem TgS.went_all (h : TgS w b g2 g3 t z L v u wr) : Went b u w wr := ⟨h.rd, h.gr⟩
end
theorem tagOut_none {l : List UInt8} (h : tagH l = none) : tagOut l = .error 80 := by unfold tagOut; rw [h]
theorem tagOut_some {l x : List UInt8} {q : Bool} {m : List Pr} (h : tagH l = some (q, m, x)) : tagOut l = if fresh [] m = true then (if 16 < m.length then .error 4 else .ok (q, m, x)) else .error 80 := by unfold tagOut; rw [h]
def tagMid (l0 l : List UInt8) (m : List Pr) : Prop := tagH l0 = (tagH l).map fun q => (q.1, m ++ q.2.1, q.2.2)
theorem tagMid.start (l : List UInt8) : tagMid l l [] := by
  unfold tagMid
  cases tagH l <;> rfl
theorem tagMid.next {l0 l y : List UInt8} {m : List Pr} {p : Pr} (h : tagMid l0 l m) (k : tagH l = (tagH y).map fun q => (q.1, p :: q.2.1, q.2.2)) : tagMid l0 y (m ++ [p]) := by
  unfold tagMid at h ⊢
  rw [h, k]
  cases tagH y <;> simp
def TgTo (b : Nat) (t u1 : ByteArray) (w : World) (e : Ending) (w' : World) : Prop :=
  (∃ er, tagOut u1.data.toList = .error er ∧ e = Thrown er ∧ ∃ u, Went b u w w') ∨
  ∃ (q : Bool) (k : Nat) (m : List Pr) (y : ByteArray) (A : Option Addr) (n c : Nat), tagOut u1.data.toList = .ok (q, m, y.data.toList) ∧ k = (if q then 3 else 1) ∧ m.length = n ∧ e = .returned (.agg #[.int .u8 (k : Int), .string t, .slice A n c, .string ⟨#[]⟩]) ∧ Went b y w w' ∧
    TkR w.heap.size w' #[.int .u8 (k : Int), .string t, .slice A n c, .string ⟨#[]⟩] ⟨k, t.data.toList, m, []⟩
theorem TgS.first (w : World) (b : Nat) (t u1 : ByteArray) (w1 : World) (h : Went b u1 (w.alloc (.cells zTk 84)) w1) (hb : b < w.heap.size) : TgS w b w.heap.size w1.heap.size t 0 [] (.slice none 0 0) u1 (w1.alloc (.cells #[.int .u8 0, .string t, .slice none 0 0, .string ⟨#[]⟩] 84)) := by
  have hk := stpA (Below.refl w1.heap.size w1) (.cells #[.int .u8 0, .string t, .slice none 0 0, .string ⟨#[]⟩] 84)
  refine ⟨(grown_below (stpA (Below.refl w.heap.size w) (.cells zTk 84)) _).trans (h.gr.trans (grown_below hk _)), h.rd.below hk, kept_heap (h.heap (heap_alloc_new w (.cells zTk 84)) (by omega)) hk, heap_alloc_new _ _, World.ownsRow_nil _ _ _ _⟩
theorem TgS.push {w : World} {b g2 g3 : Nat} {t : ByteArray} {L : List PB} {A : Option Addr} {c g4 c4 : Nat} {y nm vl : ByteArray} {w5 w6 : World} {ob : Obj} (h : TgS w b g2 g3 t 0 L (.slice A L.length c) y w5) (hb : b < g2) (hg : g2 < g3) (hw : w.heap.size ≤ g2)
    (hown : w6.ownsRow (g3 + 1) 111 2 (.slice (some ⟨g4, 0, none⟩) (L.length + 1) c4) (L.length + 1) (L.flatMap prCells ++ [.string nm, .string vl])) (hgr : (w5.alloc ob).grownBy w6 (Value.slice A L.length c).ownBlock) :
    TgS w b g2 g3 t 0 (L ++ [(nm, vl)]) (.slice (some ⟨g4, 0, none⟩) (L.length + 1) c4) y (w6.setCell ⟨g3, 2, none⟩ (.slice (some ⟨g4, 0, none⟩) (L.length + 1) c4)) := by
  have hne : ∀ k, k ≤ g3 → some k ≠ (Value.slice A L.length c).ownBlock := fun k hk e => by have := (h.own.lt k e.symm).1; omega
  have stay : ∀ k o, k ≤ g3 → w5.heap[k]? = some o → w6.heap[k]? = some o := fun k o hk ho => by
    have h1 := kept_heap ho (stpA (Below.refl w5.heap.size w5) ob)
    exact (hgr.block k (Array.getElem?_eq_some_iff.1 h1).1 (hne k hk)).trans h1
  have hsz : w5.heap.size ≤ w6.heap.size := Nat.le_trans (by simp) hgr.size
  have ho2 := set_same9 w6 g3 2 _ _ (.slice (some ⟨g4, 0, none⟩) (L.length + 1) c4) (stay g3 _ (Nat.le_refl _) h.c3)
  refine ⟨⟨hgr.os.trans h.gr.os, hgr.tape.trans h.gr.tape, hgr.output.trans h.gr.output, by have := h.gr.size; simp [World.setCell]; omega, fun k hk hkb => ?_⟩, (set_other w6 g3 2 b _ (by omega)).trans (stay b _ (by omega) h.rd), (set_other w6 g3 2 g2 _ (by omega)).trans (stay g2 _ (by omega) h.c2), ?_, ?_⟩
  · rw [set_other w6 g3 2 k _ (by omega)]
    have hk5 : k < w5.heap.size := Nat.lt_of_lt_of_le hk h.gr.size
    rw [hgr.block k (by simp; omega) (hne k (by omega)), Below.heap_alloc _ _ _ hk5]
    exact h.gr.block k hk hkb
  · simpa using ho2
  · have := own_setCell hown g3 2 (by omega) (.slice (some ⟨g4, 0, none⟩) (L.length + 1) c4)
    rw [List.length_append, List.flatMap_append]
    simpa [prCells] using this
theorem TgS.reads {w : World} {b g2 g3 : Nat} {t : ByteArray} {z : Int} {L : List PB} {A : Option Addr} {c : Nat} {y : ByteArray} {W : World} (h : TgS w b g2 g3 t z L (.slice A L.length c) y W) : RdC PrC W W.heap.size A (L.map prVal) ∧ L.length ≤ c := by
  obtain ⟨h1, _, h3, _⟩ := own_attrs h.own
  exact ⟨h1, h3⟩
theorem tag_named (b : Nat) (s t u1 : ByteArray) (w : World) (h : At9 b s w) (ht : t.data.toList = s.data.toList.takeWhile wch) (hu1 : u1.data.toList = s.data.toList.dropWhile wch) (hf : fullL (s.data.toList.takeWhile wch) = true) :
    Calls Tryz.prog 71 #[.pointer (some ⟨b, 0, none⟩)] w (TgTo b t u1 w) := by
  obtain ⟨i0, hi, hz0, hz1, hz2⟩ := info_parts infoPr
  have HI := Lib.hid hi
  have HZ0 := Lib.hid hz0
  have HZ1 := Lib.hid hz1
  have HZ2 := Lib.hid hz2
  have hsz := h.sz
  have hus : u1.size ≤ 16384 := by have := dropWhile_len wch s.data.toList; rw [← hu1, ba_l, ba_l] at this; omega
  have HF : Hid (∀ o, Calls Tryz.prog 85 #[.pointer (some ⟨b, 0, none⟩)] (w.alloc o) fun e w' => e = .returned (.string t) ∧ Went b u1 (w.alloc o) w') := Lib.hid fun o => full_yes b s t u1 (w.alloc o) (h.alloc o).rd (by omega) ht hu1 (ht ▸ hf)
  have HP1 : Hid (isP u1.data.toList = true) := Lib.hid (by rw [hu1]; exact beh_w h.tx)
  have HUS := Lib.hid hus
  have HBT : Hid (b < w.heap.size) := h.rd.lt
  have HEV : Hid (∀ u W, w.grownBy W (some b) → Rd b u W → Ev9 W) := Lib.hid fun u W hg _ => Ev9.went (t := u) h.ev h.rd hg
  clear h ht hu1 hf hsz hi hz0 hz1 hz2 hus
  go_enter Tryz.func71, Tryz.ntmps71
  go_wp2_with fail
  go_step3
  go_wp2_with (first
    | (go_at_call 85; (with_reducible refine (HF.out _).mono ?_); rintro e1 w1 ⟨rfl, hw1⟩; have HW1 : Hid (Went b u1 (w.alloc (.cells zTk 84)) w1) := Lib.hid hw1; have HG12 : Hid (w.heap.size < w1.heap.size) := Lib.hid (by have := hw1.gr.size; simp at this; omega); have HST : Hid (TgS w b w.heap.size w1.heap.size t 0 [] (.slice none 0 0) u1 (w1.alloc (.cells #[.int .u8 0, .string t, .slice none 0 0, .string ⟨#[]⟩] 84))) := Lib.hid (TgS.first w b t u1 w1 hw1 HBT.out); clear hw1)
    | (refine wpList_store_row rfl _ _ _ rfl w1.heap.size #[.int .u8 0, .string t, .slice none 0 0, .string ⟨#[]⟩] rfl rfl 84 zTk (heap_alloc_new _ _) sizeTk rfl (oneTk _ _ _ _) ?_; rw [World.setRow_alloc_new])
    | fail)
  go_step3
  go_wp2_with fail
  (try simp only [Act.put])
  go_loopg [4] 20000 (fun gg v4 wr => ∃ (L : List PB) (v : Value) (u : ByteArray), u.size ≤ gg ∧ TgS w b w.heap.size w1.heap.size t 0 L v u wr ∧ tagMid u1.data.toList u.data.toList (L.map prVal) ∧ L.length + u.size ≤ 16384 ∧ isP u.data.toList = true ∧ (∀ p ∈ L, (prVal p).name.length ≤ 16384))
  case atStart =>
    exact ⟨[], .slice none 0 0, u1, by have := HUS.out; omega, HST.out, tagMid.start _, by have := HUS.out; simpa using this, HP1.out, by simp⟩
  case round =>
    obtain ⟨L, v, u, hg, hst, hmid, hlen, hpu, hnm⟩ := hrel
    obtain ⟨A, c, rfl⟩ := own_form2 hst.own
    obtain ⟨u2, hu2⟩ := mk_l (u.data.toList.dropWhile blk)
    have hle2 : u2.size ≤ u.size := by have := dropWhile_len blk u.data.toList; rw [← hu2, ba_l, ba_l] at this; exact this
    have hp2 : isP u2.data.toList = true := by rw [hu2]; exact beh_b hpu
    obtain ⟨q, hq⟩ : ∃ q, decide (u.size ≠ u2.size) = q := ⟨_, rfl⟩
    have HB : Hid (Calls Tryz.prog 86 #[.pointer (some ⟨b, 0, none⟩)] wr fun e w' => e = .returned (.bool q) ∧ Went b u2 wr w') := Lib.hid (blank9 b u u2 q wr hst.rd (by omega) hu2 hq)
    have HST0 := Lib.hid hst
    have hG := HG12.out
    have hbt := HBT.out
    have HNM := Lib.hid hnm
    have HLEN := Lib.hid hlen
    have HMID := Lib.hid hmid
    have HTW : Hid (∀ W z y, TgS w b w.heap.size w1.heap.size t z L (.slice A L.length c) y W → ∀ q2, (!fresh [] (L.map prVal)) = q2 → Calls Tryz.prog 89 #[.slice A L.length c] W fun e w' => e = .returned (.bool q2) ∧ Below W.heap.size W w') := Lib.hid fun W z y hW q2 hq2 =>
      twice9 A L.length c (L.map prVal) W hW.reads.1 (List.length_map _) hW.reads.2 (by omega) (fun p hp => by obtain ⟨pb, h1, rfl⟩ := List.mem_map.1 hp; have := hnm pb h1; omega) q2 hq2
    by_cases h62 : ∃ y', u2.data.toList = 62 :: y'
    · obtain ⟨y', h2⟩ := h62
      obtain ⟨y, hy⟩ := mk_l y'
      have hu3 : u2.data.toList = 62 :: y.data.toList := by rw [h2, hy]
      have HOUT : Hid (tagH u1.data.toList = some (false, L.map prVal, y.data.toList)) := Lib.hid (by
        have := hmid
        unfold tagMid at this
        rw [this, tagH_shut (by rw [← hu2]; exact hu3)]
        simp)
      have HT1 : Hid (∀ W, Rd b u2 W → Calls Tryz.prog 69 #[.pointer (some ⟨b, 0, none⟩), .string ⟨#[62]⟩] W fun e w' => e = .returned (.bool true) ∧ Went b y W w') := Lib.hid fun W hW => take_yes b u2 y ⟨#[62]⟩ W hW (by rw [hu3]; rfl)
      clear h2 hy hu3 hu2 hle2 hp2 hq hst hmid hpu hG hbt hnm hlen hg
      cases hfr : fresh [] (L.map prVal) with
      | false =>
        have HFR : Hid ((!fresh [] (L.map prVal)) = true) := Lib.hid (by rw [hfr]; rfl)
        have HERR : Hid (tagOut u1.data.toList = .error 80) := Lib.hid (by rw [tagOut_some HOUT.out, hfr, if_neg (by decide)])
        clear hfr
        go_wp2_with (first
          | (go_at_call 86; (with_reducible refine (HB.out).mono ?_); rintro e2 w2 ⟨rfl, hw2⟩; have HS2 : Hid (TgS w b w.heap.size w1.heap.size t 0 L (.slice A L.length c) u2 w2) := Lib.hid (HST0.out.went HBT.out HG12.out hw2); clear hw2)
          | (go_at_call 69; (with_reducible refine (HT1.out w2 HS2.out.rd).mono ?_); rintro e3 w3 ⟨rfl, hw3⟩; have HS3 : Hid (TgS w b w.heap.size w1.heap.size t 0 L (.slice A L.length c) y w3) := Lib.hid (HS2.out.went HBT.out HG12.out hw3); have k03 := HS3.out.cell 0; have k23 := HS3.out.cell 2; have f03 := HS3.out.free 0; have f23 := HS3.out.free 2; have HK : Hid (TgS w b w.heap.size w1.heap.size t 1 L (.slice A L.length c) y (w3.setCell ⟨w1.heap.size, 0, none⟩ (.int .u8 1))) := Lib.hid (HS3.out.kind HBT.out HG12.out (Nat.le_refl _) 1); have kk2 := HK.out.cell 2; clear hw3)
          | (go_at_call 89; (with_reducible refine (HTW.out (w3.setCell ⟨w1.heap.size, 0, none⟩ (.int .u8 1)) 1 y HK.out true HFR.out).mono ?_); rintro e4 w4 ⟨rfl, hb4⟩; have HK4 : Hid (TgS w b w.heap.size w1.heap.size t 1 L (.slice A L.length c) y w4) := Lib.hid (HK.out.below hb4); have k24 := HK4.out.cell 2; clear hb4)
          | fail)
        (try simp only [Exit.inBlock, Exit.then, Exit.noGoto])
        exact ⟨rfl, .inl ⟨80, HERR.out, rfl, _, HK4.out.went_all⟩⟩
      | true =>
        have HFR : Hid ((!fresh [] (L.map prVal)) = false) := Lib.hid (by rw [hfr]; rfl)
        by_cases h16 : 16 < L.length
        · have g16 : decide ((16 : Int) < (L.length : Int)) = true := decide_eq_true (by omega)
          have HERR : Hid (tagOut u1.data.toList = .error 4) := Lib.hid (by rw [tagOut_some HOUT.out, hfr, if_pos rfl, if_pos (by rw [List.length_map]; exact h16)])
          clear hfr h16
          go_wp2_with (first
            | (go_at_call 86; (with_reducible refine (HB.out).mono ?_); rintro e2 w2 ⟨rfl, hw2⟩; have HS2 : Hid (TgS w b w.heap.size w1.heap.size t 0 L (.slice A L.length c) u2 w2) := Lib.hid (HST0.out.went HBT.out HG12.out hw2); clear hw2)
            | (go_at_call 69; (with_reducible refine (HT1.out w2 HS2.out.rd).mono ?_); rintro e3 w3 ⟨rfl, hw3⟩; have HS3 : Hid (TgS w b w.heap.size w1.heap.size t 0 L (.slice A L.length c) y w3) := Lib.hid (HS2.out.went HBT.out HG12.out hw3); have k03 := HS3.out.cell 0; have k23 := HS3.out.cell 2; have f03 := HS3.out.free 0; have f23 := HS3.out.free 2; have HK : Hid (TgS w b w.heap.size w1.heap.size t 1 L (.slice A L.length c) y (w3.setCell ⟨w1.heap.size, 0, none⟩ (.int .u8 1))) := Lib.hid (HS3.out.kind HBT.out HG12.out (Nat.le_refl _) 1); have kk2 := HK.out.cell 2; clear hw3)
            | (go_at_call 89; (with_reducible refine (HTW.out (w3.setCell ⟨w1.heap.size, 0, none⟩ (.int .u8 1)) 1 y HK.out false HFR.out).mono ?_); rintro e4 w4 ⟨rfl, hb4⟩; have HK4 : Hid (TgS w b w.heap.size w1.heap.size t 1 L (.slice A L.length c) y w4) := Lib.hid (HK.out.below hb4); have k24 := HK4.out.cell 2; clear hb4)
            | fail)
          (try simp only [Exit.inBlock, Exit.then, Exit.noGoto])
          exact ⟨rfl, .inl ⟨4, HERR.out, rfl, _, HK4.out.went_all⟩⟩
        · have g16 : decide ((16 : Int) < (L.length : Int)) = false := decide_eq_false (by omega)
          have HOK : Hid (tagOut u1.data.toList = .ok (false, L.map prVal, y.data.toList)) := Lib.hid (by rw [tagOut_some HOUT.out, hfr, if_pos rfl, if_neg (by rw [List.length_map]; exact h16)])
          clear hfr h16
          go_wp2_with (first
            | (go_at_call 86; (with_reducible refine (HB.out).mono ?_); rintro e2 w2 ⟨rfl, hw2⟩; have HS2 : Hid (TgS w b w.heap.size w1.heap.size t 0 L (.slice A L.length c) u2 w2) := Lib.hid (HST0.out.went HBT.out HG12.out hw2); clear hw2)
            | (go_at_call 69; (with_reducible refine (HT1.out w2 HS2.out.rd).mono ?_); rintro e3 w3 ⟨rfl, hw3⟩; have HS3 : Hid (TgS w b w.heap.size w1.heap.size t 0 L (.slice A L.length c) y w3) := Lib.hid (HS2.out.went HBT.out HG12.out hw3); have k03 := HS3.out.cell 0; have k23 := HS3.out.cell 2; have f03 := HS3.out.free 0; have f23 := HS3.out.free 2; have HK : Hid (TgS w b w.heap.size w1.heap.size t 1 L (.slice A L.length c) y (w3.setCell ⟨w1.heap.size, 0, none⟩ (.int .u8 1))) := Lib.hid (HS3.out.kind HBT.out HG12.out (Nat.le_refl _) 1); have kk2 := HK.out.cell 2; clear hw3)
            | (go_at_call 89; (with_reducible refine (HTW.out (w3.setCell ⟨w1.heap.size, 0, none⟩ (.int .u8 1)) 1 y HK.out false HFR.out).mono ?_); rintro e4 w4 ⟨rfl, hb4⟩; have HK4 : Hid (TgS w b w.heap.size w1.heap.size t 1 L (.slice A L.length c) y w4) := Lib.hid (HK.out.below hb4); have k24 := HK4.out.cell 2; clear hb4)
            | (refine wpList_load_row rfl _ _ rfl w1.heap.size rfl 84 #[.int .u8 1, .string t, .slice A L.length c, .string ⟨#[]⟩] (0, 0) _ HK4.out.c3 Tryz.underlying84 rfl sizeTk ?_)
            | (refine wpList_store_row rfl _ _ _ rfl w.heap.size #[.int .u8 1, .string t, .slice A L.length c, .string ⟨#[]⟩] rfl rfl 84 zTk HK4.out.c2 sizeTk rfl (oneTk _ _ _ _) ?_)
            | fail)
          (try simp only [Exit.inBlock, Exit.then, Exit.noGoto])
          exact bodyPost_ret (v := .agg #[.int .u8 1, .string t, .slice A L.length c, .string ⟨#[]⟩]) (results_cell_row rfl _ _ _ _ _ _ _ rfl (setRow_heap _ _ _ #[.int .u8 1, .string t, .slice A L.length c, .string ⟨#[]⟩] _ _ HK4.out.c2) Tryz.underlying84 rfl sizeTk) rfl
            (.inr ⟨false, 1, L.map prVal, y, A, L.length, c, HOK.out, rfl, List.length_map _, rfl, HK4.out.went_all.setRow _ _ (Nat.le_refl _) HBT.out, TkR_set (B := w.heap.size) (g := w1.heap.size) (R := w.heap.size) HK4.out.own HG12.out (Nat.le_refl _) 1 (by decide) t⟩)
    by_cases h47 : ∃ y', u2.data.toList = 47 :: 62 :: y'
    · obtain ⟨y', h2⟩ := h47
      obtain ⟨y, hy⟩ := mk_l y'
      have hu3 : u2.data.toList = 47 :: 62 :: y.data.toList := by rw [h2, hy]
      have HOUT : Hid (tagH u1.data.toList = some (true, L.map prVal, y.data.toList)) := Lib.hid (by
        have := hmid
        unfold tagMid at this
        rw [this, tagH_bare (by rw [← hu2]; exact hu3)]
        simp)
      have HT1 : Hid (∀ W, Rd b u2 W → Calls Tryz.prog 69 #[.pointer (some ⟨b, 0, none⟩), .string ⟨#[62]⟩] W fun e w' => e = .returned (.bool false) ∧ Went b u2 W w') := Lib.hid fun W hW => take_no b u2 ⟨#[62]⟩ W hW (pre1 (by rw [hu3]; intro r e; cases e))
      have HT2 : Hid (∀ W, Rd b u2 W → Calls Tryz.prog 69 #[.pointer (some ⟨b, 0, none⟩), .string ⟨#[47, 62]⟩] W fun e w' => e = .returned (.bool true) ∧ Went b y W w') := Lib.hid fun W hW => take_yes b u2 y ⟨#[47, 62]⟩ W hW (by rw [hu3]; rfl)
      clear h2 hy hu3 hu2 hle2 hp2 hq hst hmid hpu hG hbt hnm hlen hg
      cases hfr : fresh [] (L.map prVal) with
      | false =>
        have HFR : Hid ((!fresh [] (L.map prVal)) = true) := Lib.hid (by rw [hfr]; rfl)
        have HERR : Hid (tagOut u1.data.toList = .error 80) := Lib.hid (by rw [tagOut_some HOUT.out, hfr, if_neg (by decide)])
        clear hfr
        go_wp2_with (first
          | (go_at_call 86; (with_reducible refine (HB.out).mono ?_); rintro e2 w2 ⟨rfl, hw2⟩; have HS2 : Hid (TgS w b w.heap.size w1.heap.size t 0 L (.slice A L.length c) u2 w2) := Lib.hid (HST0.out.went HBT.out HG12.out hw2); clear hw2)
          | (go_at_call 69; (with_reducible refine (HT1.out w2 HS2.out.rd).mono ?_); rintro e0 w0 ⟨rfl, hw0⟩; have HS0 : Hid (TgS w b w.heap.size w1.heap.size t 0 L (.slice A L.length c) u2 w0) := Lib.hid (HS2.out.went HBT.out HG12.out hw0); clear hw0)
          | (go_at_call 69; (with_reducible refine (HT2.out w0 HS0.out.rd).mono ?_); rintro e3 w3 ⟨rfl, hw3⟩; have HS3 : Hid (TgS w b w.heap.size w1.heap.size t 0 L (.slice A L.length c) y w3) := Lib.hid (HS0.out.went HBT.out HG12.out hw3); have k03 := HS3.out.cell 0; have k23 := HS3.out.cell 2; have f03 := HS3.out.free 0; have f23 := HS3.out.free 2; have HK : Hid (TgS w b w.heap.size w1.heap.size t 3 L (.slice A L.length c) y (w3.setCell ⟨w1.heap.size, 0, none⟩ (.int .u8 3))) := Lib.hid (HS3.out.kind HBT.out HG12.out (Nat.le_refl _) 3); have kk2 := HK.out.cell 2; clear hw3)
          | (go_at_call 89; (with_reducible refine (HTW.out (w3.setCell ⟨w1.heap.size, 0, none⟩ (.int .u8 3)) 3 y HK.out true HFR.out).mono ?_); rintro e4 w4 ⟨rfl, hb4⟩; have HK4 : Hid (TgS w b w.heap.size w1.heap.size t 3 L (.slice A L.length c) y w4) := Lib.hid (HK.out.below hb4); have k24 := HK4.out.cell 2; clear hb4)
          | fail)
        (try simp only [Exit.inBlock, Exit.then, Exit.noGoto])
        exact ⟨rfl, .inl ⟨80, HERR.out, rfl, _, HK4.out.went_all⟩⟩
      | true =>
        have HFR : Hid ((!fresh [] (L.map prVal)) = false) := Lib.hid (by rw [hfr]; rfl)
        by_cases h16 : 16 < L.length
        · have g16 : decide ((16 : Int) < (L.length : Int)) = true := decide_eq_true (by omega)
          have HERR : Hid (tagOut u1.data.toList = .error 4) := Lib.hid (by rw [tagOut_some HOUT.out, hfr, if_pos rfl, if_pos (by rw [List.length_map]; exact h16)])
          clear hfr h16
          go_wp2_with (first
            | (go_at_call 86; (with_reducible refine (HB.out).mono ?_); rintro e2 w2 ⟨rfl, hw2⟩; have HS2 : Hid (TgS w b w.heap.size w1.heap.size t 0 L (.slice A L.length c) u2 w2) := Lib.hid (HST0.out.went HBT.out HG12.out hw2); clear hw2)
            | (go_at_call 69; (with_reducible refine (HT1.out w2 HS2.out.rd).mono ?_); rintro e0 w0 ⟨rfl, hw0⟩; have HS0 : Hid (TgS w b w.heap.size w1.heap.size t 0 L (.slice A L.length c) u2 w0) := Lib.hid (HS2.out.went HBT.out HG12.out hw0); clear hw0)
            | (go_at_call 69; (with_reducible refine (HT2.out w0 HS0.out.rd).mono ?_); rintro e3 w3 ⟨rfl, hw3⟩; have HS3 : Hid (TgS w b w.heap.size w1.heap.size t 0 L (.slice A L.length c) y w3) := Lib.hid (HS0.out.went HBT.out HG12.out hw3); have k03 := HS3.out.cell 0; have k23 := HS3.out.cell 2; have f03 := HS3.out.free 0; have f23 := HS3.out.free 2; have HK : Hid (TgS w b w.heap.size w1.heap.size t 3 L (.slice A L.length c) y (w3.setCell ⟨w1.heap.size, 0, none⟩ (.int .u8 3))) := Lib.hid (HS3.out.kind HBT.out HG12.out (Nat.le_refl _) 3); have kk2 := HK.out.cell 2; clear hw3)
            | (go_at_call 89; (with_reducible refine (HTW.out (w3.setCell ⟨w1.heap.size, 0, none⟩ (.int .u8 3)) 3 y HK.out false HFR.out).mono ?_); rintro e4 w4 ⟨rfl, hb4⟩; have HK4 : Hid (TgS w b w.heap.size w1.heap.size t 3 L (.slice A L.length c) y w4) := Lib.hid (HK.out.below hb4); have k24 := HK4.out.cell 2; clear hb4)
            | fail)
          (try simp only [Exit.inBlock, Exit.then, Exit.noGoto])
          exact ⟨rfl, .inl ⟨4, HERR.out, rfl, _, HK4.out.went_all⟩⟩
        · have g16 : decide ((16 : Int) < (L.length : Int)) = false := decide_eq_false (by omega)
          have HOK : Hid (tagOut u1.data.toList = .ok (true, L.map prVal, y.data.toList)) := Lib.hid (by rw [tagOut_some HOUT.out, hfr, if_pos rfl, if_neg (by rw [List.length_map]; exact h16)])
          clear hfr h16
          go_wp2_with (first
            | (go_at_call 86; (with_reducible refine (HB.out).mono ?_); rintro e2 w2 ⟨rfl, hw2⟩; have HS2 : Hid (TgS w b w.heap.size w1.heap.size t 0 L (.slice A L.length c) u2 w2) := Lib.hid (HST0.out.went HBT.out HG12.out hw2); clear hw2)
            | (go_at_call 69; (with_reducible refine (HT1.out w2 HS2.out.rd).mono ?_); rintro e0 w0 ⟨rfl, hw0⟩; have HS0 : Hid (TgS w b w.heap.size w1.heap.size t 0 L (.slice A L.length c) u2 w0) := Lib.hid (HS2.out.went HBT.out HG12.out hw0); clear hw0)
            | (go_at_call 69; (with_reducible refine (HT2.out w0 HS0.out.rd).mono ?_); rintro e3 w3 ⟨rfl, hw3⟩; have HS3 : Hid (TgS w b w.heap.size w1.heap.size t 0 L (.slice A L.length c) y w3) := Lib.hid (HS0.out.went HBT.out HG12.out hw3); have k03 := HS3.out.cell 0; have k23 := HS3.out.cell 2; have f03 := HS3.out.free 0; have f23 := HS3.out.free 2; have HK : Hid (TgS w b w.heap.size w1.heap.size t 3 L (.slice A L.length c) y (w3.setCell ⟨w1.heap.size, 0, none⟩ (.int .u8 3))) := Lib.hid (HS3.out.kind HBT.out HG12.out (Nat.le_refl _) 3); have kk2 := HK.out.cell 2; clear hw3)
            | (go_at_call 89; (with_reducible refine (HTW.out (w3.setCell ⟨w1.heap.size, 0, none⟩ (.int .u8 3)) 3 y HK.out false HFR.out).mono ?_); rintro e4 w4 ⟨rfl, hb4⟩; have HK4 : Hid (TgS w b w.heap.size w1.heap.size t 3 L (.slice A L.length c) y w4) := Lib.hid (HK.out.below hb4); have k24 := HK4.out.cell 2; clear hb4)
            | (refine wpList_load_row rfl _ _ rfl w1.heap.size rfl 84 #[.int .u8 3, .string t, .slice A L.length c, .string ⟨#[]⟩] (0, 0) _ HK4.out.c3 Tryz.underlying84 rfl sizeTk ?_)
            | (refine wpList_store_row rfl _ _ _ rfl w.heap.size #[.int .u8 3, .string t, .slice A L.length c, .string ⟨#[]⟩] rfl rfl 84 zTk HK4.out.c2 sizeTk rfl (oneTk _ _ _ _) ?_)
            | fail)
          (try simp only [Exit.inBlock, Exit.then, Exit.noGoto])
          exact bodyPost_ret (v := .agg #[.int .u8 3, .string t, .slice A L.length c, .string ⟨#[]⟩]) (results_cell_row rfl _ _ _ _ _ _ _ rfl (setRow_heap _ _ _ #[.int .u8 3, .string t, .slice A L.length c, .string ⟨#[]⟩] _ _ HK4.out.c2) Tryz.underlying84 rfl sizeTk) rfl
            (.inr ⟨true, 3, L.map prVal, y, A, L.length, c, HOK.out, rfl, List.length_map _, rfl, HK4.out.went_all.setRow _ _ (Nat.le_refl _) HBT.out, TkR_set (B := w.heap.size) (g := w1.heap.size) (R := w.heap.size) HK4.out.own HG12.out (Nat.le_refl _) 3 (by decide) t⟩)
    have hno : noEnd9 (u.data.toList.dropWhile blk) := by
      rw [← hu2]
      refine ⟨fun e => ?_, fun e => ?_⟩
      · cases hc : u2.data.toList with
        | nil => rw [hc] at e; cases e
        | cons d r => rw [hc] at e; injection e with e; exact h62 ⟨r, by rw [hc, e]⟩
      · match hc : u2.data.toList, e with
        | [], e => cases e
        | [d], e => simp at e
        | d :: d2 :: r, e => simp at e; exact h47 ⟨r, by rw [hc, e.1, e.2]⟩
    have HT1 : Hid (∀ W, Rd b u2 W → Calls Tryz.prog 69 #[.pointer (some ⟨b, 0, none⟩), .string ⟨#[62]⟩] W fun e w' => e = .returned (.bool false) ∧ Went b u2 W w') := Lib.hid fun W hW => take_no b u2 ⟨#[62]⟩ W hW (pre1 fun r e => h62 ⟨r, e⟩)
    have HT2 : Hid (∀ W, Rd b u2 W → Calls Tryz.prog 69 #[.pointer (some ⟨b, 0, none⟩), .string ⟨#[47, 62]⟩] W fun e w' => e = .returned (.bool false) ∧ Went b u2 W w') := Lib.hid fun W hW => take_no b u2 ⟨#[47, 62]⟩ W hW (by
      rintro ⟨r, e⟩
      exact h47 ⟨r, e.symm⟩)
    cases q with
    | false =>
      have HERR : Hid (tagOut u1.data.toList = .error 80) := Lib.hid (tagOut_none (by
        have := hmid
        unfold tagMid at this
        rw [this, tagH_none hno (.inl (by rw [← hu2, ba_l, ba_l]; have := of_decide_eq_false hq; omega))]
        rfl))
      clear hu2 hle2 hp2 hq hst hmid hpu hG hbt hnm hlen hg h62 h47 hno
      go_wp2_with (first
        | (go_at_call 86; (with_reducible refine (HB.out).mono ?_); rintro e2 w2 ⟨rfl, hw2⟩; have HS2 : Hid (TgS w b w.heap.size w1.heap.size t 0 L (.slice A L.length c) u2 w2) := Lib.hid (HST0.out.went HBT.out HG12.out hw2); clear hw2)
        | (go_at_call 69; (with_reducible refine (HT1.out w2 HS2.out.rd).mono ?_); rintro e0 w0 ⟨rfl, hw0⟩; have HS0 : Hid (TgS w b w.heap.size w1.heap.size t 0 L (.slice A L.length c) u2 w0) := Lib.hid (HS2.out.went HBT.out HG12.out hw0); clear hw0)
        | (go_at_call 69; (with_reducible refine (HT2.out w0 HS0.out.rd).mono ?_); rintro e4 w4 ⟨rfl, hw4⟩; have HS4 : Hid (TgS w b w.heap.size w1.heap.size t 0 L (.slice A L.length c) u2 w4) := Lib.hid (HS0.out.went HBT.out HG12.out hw4); clear hw4)
        | fail)
      (try simp only [Exit.inBlock, Exit.then, Exit.noGoto])
      exact ⟨rfl, .inl ⟨80, HERR.out, rfl, _, HS4.out.went_all⟩⟩
    | true =>
      have hne : (u.data.toList.dropWhile blk).length ≠ u.data.toList.length := by rw [← hu2, ba_l, ba_l]; have := of_decide_eq_true hq; omega
      cases ha : attrL u2.data.toList with
      | none =>
        have HERR : Hid (tagOut u1.data.toList = .error 80) := Lib.hid (tagOut_none (by
          have := hmid
          unfold tagMid at this
          rw [this, tagH_none hno (.inr (by rw [← hu2]; exact ha))]
          rfl))
        have HAT : Hid (∀ W, At9 b u2 W → Calls Tryz.prog 88 #[.pointer (some ⟨b, 0, none⟩)] W fun e w' => e = Thrown 80 ∧ ∃ u, Went b u W w') := Lib.hid fun W hW => attr_none b u2 W hW ha
        have HAA : Hid (∀ W z, TgS w b w.heap.size w1.heap.size t z L (.slice A L.length c) u2 W → At9 b u2 W.drew) := Lib.hid fun W z hW => At9.below ⟨hW.rd, HEV.out u2 W hW.gr hW.rd, by omega, hp2⟩ (Below.refl _ _).drew
        unfold Thrown at HAT
        clear hu2 hle2 hp2 hq hst hmid hpu hG hbt hnm hlen hg h62 h47 hno hne ha
        go_wp2_with (first
          | (go_at_call 86; (with_reducible refine (HB.out).mono ?_); rintro e2 w2 ⟨rfl, hw2⟩; have HS2 : Hid (TgS w b w.heap.size w1.heap.size t 0 L (.slice A L.length c) u2 w2) := Lib.hid (HST0.out.went HBT.out HG12.out hw2); clear hw2)
          | (go_at_call 69; (with_reducible refine (HT1.out w2 HS2.out.rd).mono ?_); rintro e0 w0 ⟨rfl, hw0⟩; have HS0 : Hid (TgS w b w.heap.size w1.heap.size t 0 L (.slice A L.length c) u2 w0) := Lib.hid (HS2.out.went HBT.out HG12.out hw0); clear hw0)
          | (go_at_call 69; (with_reducible refine (HT2.out w0 HS0.out.rd).mono ?_); rintro e4 w4 ⟨rfl, hw4⟩; have HS4 : Hid (TgS w b w.heap.size w1.heap.size t 0 L (.slice A L.length c) u2 w4) := Lib.hid (HS0.out.went HBT.out HG12.out hw4); clear hw4)
          | fail)
        refine wp_region_Z (fun w' => w'.cell? ⟨w1.heap.size, 2, none⟩ = some (.slice A L.length c)) 7 (by kernel_rfl) ?_
        have hS : w4.drew.cell? ⟨w1.heap.size, 2, none⟩ = some (.slice A L.length c) := HS4.out.cell 2
        refine takeZ (i := 0) (v := .pointer (some ⟨w1.heap.size, 2, none⟩)) rfl (by kernel_rfl) (by kernel_rfl) (by kernel_rfl) (by kernel_rfl) (fun _ _ _ h => h) (Or.inl ⟨by rfl, ?_⟩) hS ?_
        · intro w' hSw; (try dsimp only at hSw); go_simp
        try simp only [Act.put, List.setIfInBounds_toArray, List.set_cons_zero, List.set_cons_succ]
        refine takeZ (i := 1) (v := .slice A L.length c) rfl (by kernel_rfl) (by kernel_rfl) (by kernel_rfl) (by kernel_rfl) (fun _ _ _ h => h) (Or.inl ⟨by rfl, ?_⟩) hS ?_
        · intro w' hSw; (try dsimp only at hSw); go_simp
        try simp only [Act.put, List.setIfInBounds_toArray, List.set_cons_zero, List.set_cons_succ]
        refine takeZ (i := 2) (v := .pointer (some ⟨b, 0, none⟩)) rfl (by kernel_rfl) (by kernel_rfl) (by kernel_rfl) (by kernel_rfl) (fun _ _ _ h => h) (Or.inl ⟨by rfl, ?_⟩) hS ?_
        · intro w' hSw; (try dsimp only at hSw); go_simp
        try simp only [Act.put, List.setIfInBounds_toArray, List.set_cons_zero, List.set_cons_succ]
        refine stepZ (i := 3) (by kernel_rfl) rfl (fun K hK => ?_)
        go_simp
        go_at_call 88; (with_reducible refine (HAT.out _ (HAA.out _ _ HS4.out)).mono ?_); rintro e5 w5 ⟨rfl, u5, hw5⟩
        (try simp only [Exit.inBlock, Exit.then, Exit.noGoto])
        exact ⟨rfl, .inl ⟨80, HERR.out, rfl, _, HS4.out.went_all.trans (Went.after (Below.refl _ _).drew hw5)⟩⟩
      | some p =>
        obtain ⟨⟨pn, pv⟩, y'⟩ := p
        obtain ⟨nm, hnm2⟩ := mk_l pn
        obtain ⟨vl, hvl⟩ := mk_l pv
        obtain ⟨y, hy⟩ := mk_l y'
        subst hnm2 hvl hy
        have hal := attrL_len ha
        dsimp only at hal
        rw [ba_l, ba_l, ba_l] at hal
        have HPY : Hid (isP y.data.toList = true) := Lib.hid (attrL_text ha hp2 (by rw [ba_l]; omega)).2.2.1
        have HNX : Hid (tagMid u1.data.toList y.data.toList ((L ++ [(nm, vl)]).map prVal)) := Lib.hid (by
          rw [List.map_append]
          exact hmid.next (tagH_next hno hne (by rw [← hu2]; exact ha)))
        have HYS : Hid (y.size ≤ gk - 1 ∧ (L.length + 1) + y.size ≤ 16384 ∧ nm.size ≤ 16384 ∧ 0 < gk) := Lib.hid ⟨by omega, by omega, by omega, by omega⟩
        have HLB : Hid (L.length ≤ 16384) := Lib.hid (by omega)
        have HAT : Hid (∀ W, At9 b u2 W → Calls Tryz.prog 88 #[.pointer (some ⟨b, 0, none⟩)] W fun e w' => e = .returned (.agg #[.string nm, .string vl]) ∧ Went b y W w') := Lib.hid fun W hW => attr_some b u2 nm vl y W hW ha
        have HAA : Hid (∀ W z, TgS w b w.heap.size w1.heap.size t z L (.slice A L.length c) u2 W → At9 b u2 W.drew) := Lib.hid fun W z hW => At9.below ⟨hW.rd, HEV.out u2 W hW.gr hW.rd, by omega, hp2⟩ (Below.refl _ _).drew
        clear hu2 hle2 hp2 hq hst hmid hpu hG hbt hnm hlen hg h62 h47 hno hne ha hal
        go_wp2_with (first
          | (go_at_call 86; (with_reducible refine (HB.out).mono ?_); rintro e2 w2 ⟨rfl, hw2⟩; have HS2 : Hid (TgS w b w.heap.size w1.heap.size t 0 L (.slice A L.length c) u2 w2) := Lib.hid (HST0.out.went HBT.out HG12.out hw2); clear hw2)
          | (go_at_call 69; (with_reducible refine (HT1.out w2 HS2.out.rd).mono ?_); rintro e0 w0 ⟨rfl, hw0⟩; have HS0 : Hid (TgS w b w.heap.size w1.heap.size t 0 L (.slice A L.length c) u2 w0) := Lib.hid (HS2.out.went HBT.out HG12.out hw0); clear hw0)
          | (go_at_call 69; (with_reducible refine (HT2.out w0 HS0.out.rd).mono ?_); rintro e4 w4 ⟨rfl, hw4⟩; have HS4 : Hid (TgS w b w.heap.size w1.heap.size t 0 L (.slice A L.length c) u2 w4) := Lib.hid (HS0.out.went HBT.out HG12.out hw4); clear hw4)
          | fail)
        refine wp_region_noPanic ?_
        refine wp_region_Z (fun w' => w'.cell? ⟨w1.heap.size, 2, none⟩ = some (.slice A L.length c)) 7 (by kernel_rfl) ?_
        have hS : w4.drew.cell? ⟨w1.heap.size, 2, none⟩ = some (.slice A L.length c) := HS4.out.cell 2
        refine takeZ (i := 0) (v := .pointer (some ⟨w1.heap.size, 2, none⟩)) rfl (by kernel_rfl) (by kernel_rfl) (by kernel_rfl) (by kernel_rfl) (fun _ _ _ h => h) (Or.inl ⟨by rfl, ?_⟩) hS ?_
        · intro w' hSw; (try dsimp only at hSw); go_simp
        try simp only [Act.put, List.setIfInBounds_toArray, List.set_cons_zero, List.set_cons_succ]
        refine takeZ (i := 1) (v := .slice A L.length c) rfl (by kernel_rfl) (by kernel_rfl) (by kernel_rfl) (by kernel_rfl) (fun _ _ _ h => h) (Or.inl ⟨by rfl, ?_⟩) hS ?_
        · intro w' hSw; (try dsimp only at hSw); go_simp
        try simp only [Act.put, List.setIfInBounds_toArray, List.set_cons_zero, List.set_cons_succ]
        refine takeZ (i := 2) (v := .pointer (some ⟨b, 0, none⟩)) rfl (by kernel_rfl) (by kernel_rfl) (by kernel_rfl) (by kernel_rfl) (fun _ _ _ h => h) (Or.inl ⟨by rfl, ?_⟩) hS ?_
        · intro w' hSw; (try dsimp only at hSw); go_simp
        try simp only [Act.put, List.setIfInBounds_toArray, List.set_cons_zero, List.set_cons_succ]
        refine stepZ (i := 3) (by kernel_rfl) rfl (fun K hK => ?_)
        go_simp
        go_at_call 88; (with_reducible refine (HAT.out _ (HAA.out _ _ HS4.out)).mono ?_); rintro e5 w5 ⟨rfl, hw5⟩
        have HS5 : Hid (TgS w b w.heap.size w1.heap.size t 0 L (.slice A L.length c) y w5) := Lib.hid ((HS4.out.below (Below.refl _ _).drew).went HBT.out HG12.out hw5)
        have c5 : w5.cell? ⟨w1.heap.size, 2, none⟩ = some (.slice A L.length c) := HS5.out.cell 2
        go_wp2_with fail
        refine hK.out _ _ (fun _ => c5) (fun _ => ?_)
        clear hK K hw5
        try simp only [Act.put, List.setIfInBounds_toArray, List.set_cons_zero, List.set_cons_succ]
        refine stepZ (i := 4) (by kernel_rfl) rfl (fun K hK => ?_)
        go_simp
        have cW : (w5.alloc (.cells #[.string nm, .string vl] 111)).cell? ⟨w1.heap.size, 2, none⟩ = some (.slice A L.length c) := (HS5.out.below (stpA (Below.refl _ _) _)).cell 2
        refine hK.out _ _ (fun _ => cW) (fun _ => ?_)
        clear hK K
        try simp only [Act.put, List.setIfInBounds_toArray, List.set_cons_zero, List.set_cons_succ]
        refine stepZ (i := 5) (by kernel_rfl) rfl (fun K hK => ?_)
        refine step_append_lies _ rfl (.tmp 27) (.tmp 30) 82 rfl (w1.heap.size + 1) 111 i0 (.agg #[.string ⟨#[]⟩, .string ⟨#[]⟩]) 2 32 Tryz.underlying82 HI.out HZ0.out HZ1.out HZ2.out rfl (by decide) _ L.length _ rfl (own_belowK HS5.out.own (stpA (Below.refl _ _) _) (Nat.le_refl _)) ⟨w5.heap.size, 0, none⟩ 1 1 [.string nm, .string vl] rfl rfl (new_at w5 [.string nm, .string vl] 111 _ rfl) (by simp [Value.oneCell']) (by decide) (by have := HLB.out; unfold maxLen; omega) (by have := HLB.out; omega) (by have := (Array.getElem?_eq_some_iff.1 HS5.out.c3).1; simp; omega) _ rfl ?_
        intro g6 c6 w6 hown6 hgr6 hor hlt6
        have HP6 := Lib.hid (HS5.out.push HBT.out HG12.out (Nat.le_refl _) hown6 hgr6)
        have h6 : w6.heap[w1.heap.size]? = some (.cells #[.int .u8 0, .string t, .slice A L.length c, .string ⟨#[]⟩] 84 (0, 0)) := by
          have h1 := kept_heap HS5.out.c3 (stpA (Below.refl w5.heap.size w5) (.cells #[.string nm, .string vl] 111))
          exact (hgr6.block _ (Array.getElem?_eq_some_iff.1 h1).1 (fun e => by have := (HS5.out.own.lt _ e.symm).1; omega)).trans h1
        have k6 : w6.cell? ⟨w1.heap.size, 2, none⟩ = some (.slice A L.length c) := cellV w6 _ 2 _ _ _ h6
        have f6 : w6.frozen? ⟨w1.heap.size, 2, none⟩ = false := freeV w6 _ 2 _ _ h6
        clear hown6 hgr6 hor h6
        refine hK.out _ _ (fun _ => k6) (fun _ => ?_)
        clear hK K
        try simp only [Act.put, List.setIfInBounds_toArray, List.set_cons_zero, List.set_cons_succ]
        refine takeZ (i := 6) (v := .pointer (some ⟨w1.heap.size, 2, none⟩)) rfl (by kernel_rfl) (by kernel_rfl) (by kernel_rfl) (by kernel_rfl) (fun _ _ _ h => h) (Or.inl ⟨by rfl, ?_⟩) k6 ?_
        · intro w' hSw; (try dsimp only at hSw); go_simp
        try simp only [Act.put, List.setIfInBounds_toArray, List.set_cons_zero, List.set_cons_succ]
        refine stepZ (i := 7) (by kernel_rfl) rfl (fun K hK => ?_)
        go_simp
        refine hK.out _ _ (fun h => absurd rfl h) (fun _ => ?_)
        clear hK K
        try simp only [Act.put, List.setIfInBounds_toArray, List.set_cons_zero, List.set_cons_succ]
        refine doneZ (by kernel_rfl) ?_ _
        refine NoPanic.normal ?_
        go_wp2_with fail
        go_roundg (gk - 1)
        case rel => exact ⟨L ++ [(nm, vl)], _, y, HYS.out.1, by simpa using HP6.out, HNX.out, by have := HYS.out.2.1; rw [List.length_append]; simpa using this, HPY.out, by
          intro p hp
          rcases List.mem_append.1 hp with hp | hp
          · exact HNM.out p hp
          · rw [List.mem_singleton] at hp
            subst hp
            show nm.data.toList.length ≤ 16384
            rw [ba_l]
            exact HYS.out.2.2.1⟩
        case measure => have := HYS.out.2.2.2; omega
theorem tag_word (b : Nat) (s : ByteArray) (w : World) (h : At9 b s w) (hf : fullL (s.data.toList.takeWhile wch) = false) :
    Calls Tryz.prog 71 #[.pointer (some ⟨b, 0, none⟩)] w fun e w' => e = Thrown 80 ∧ ∃ u, Went b u w w' := by
  have hsz := h.sz
  have HF : Hid (∀ o, Calls Tryz.prog 85 #[.pointer (some ⟨b, 0, none⟩)] (w.alloc o) fun e w' => e = Thrown 80 ∧ ∃ u, Went b u (w.alloc o) w') := Lib.hid fun o => full_no b s (w.alloc o) (h.alloc o).rd (by omega) hf
  unfold Thrown at HF ⊢
  clear h hf hsz
  go_enter Tryz.func71, Tryz.ntmps71
  go_wp2_with fail
  go_step3
  go_wp2_with (first
    | (go_at_call 85; (with_reducible refine (HF.out _).mono ?_); rintro e1 w1 ⟨rfl, u1, hw1⟩)
    | fail)
  (try simp only [Exit.inBlock, Exit.then, Exit.noGoto])
  exact ⟨rfl, rfl, _, Went.after (stpA (Below.refl _ _) _) hw1⟩
theorem tag_err (b : Nat) (s : ByteArray) (er : Int) (w : World) (h : At9 b s w) (hf : (fullL (s.data.toList.takeWhile wch) = false ∧ er = 80) ∨ (fullL (s.data.toList.takeWhile wch) = true ∧ tagOut (s.data.toList.dropWhile wch) = .error er)) :
    Calls Tryz.prog 71 #[.pointer (some ⟨b, 0, none⟩)] w fun e w' => e = Thrown er ∧ ∃ u, Went b u w w' := by
  rcases hf with ⟨hf, rfl⟩ | ⟨hf, ho⟩
  · exact tag_word b s w h hf
  · obtain ⟨t, ht⟩ := mk_l (s.data.toList.takeWhile wch)
    obtain ⟨u1, hu1⟩ := mk_l (s.data.toList.dropWhile wch)
    rw [← hu1] at ho
    refine (tag_named b s t u1 w h ht hu1 hf).mono fun e w' hp => ?_
    rcases hp with ⟨er', h1, h2, h3⟩ | ⟨q, k, m, y, A, n, c, h1, _⟩
    · rw [ho] at h1
      injection h1 with h1
      subst h1
      exact ⟨h2, h3⟩
    · rw [ho] at h1; cases h1
theorem tag_ok (b : Nat) (s t y : ByteArray) (q : Bool) (k : Nat) (m : List Pr) (w : World) (h : At9 b s w) (hf : fullL (s.data.toList.takeWhile wch) = true) (ht : t.data.toList = s.data.toList.takeWhile wch) (ho : tagOut (s.data.toList.dropWhile wch) = .ok (q, m, y.data.toList)) (hk : k = if q then 3 else 1) :
    Calls Tryz.prog 71 #[.pointer (some ⟨b, 0, none⟩)] w fun e w' => ∃ (A : Option Addr) (n c : Nat), m.length = n ∧ e = .returned (.agg #[.int .u8 (k : Int), .string t, .slice A n c, .string ⟨#[]⟩]) ∧ Went b y w w' ∧ TkR w.heap.size w' #[.int .u8 (k : Int), .string t, .slice A n c, .string ⟨#[]⟩] ⟨k, t.data.toList, m, []⟩ := by
  obtain ⟨u1, hu1⟩ := mk_l (s.data.toList.dropWhile wch)
  rw [← hu1] at ho
  refine (tag_named b s t u1 w h ht hu1 hf).mono fun e w' hp => ?_
  rcases hp with ⟨er', h1, h2, h3⟩ | ⟨q', k', m', y', A, n, c, h1, h2, h3, h4, h5, h6⟩
  · rw [ho] at h1; cases h1
  · rw [ho] at h1
    injection h1 with h1
    obtain ⟨rfl, h7⟩ := (Prod.mk.injEq _ _ _ _).mp h1
    obtain ⟨rfl, h8⟩ := (Prod.mk.injEq _ _ _ _).mp h7
    obtain rfl := ba_x h8
    subst h2 hk
    exact ⟨A, n, c, h3, h4, h5, h6⟩
theorem TkR.setRow {B g : Nat} {w : World} {cs cs' : Array Value} {t : Tk} (h : TkR B w cs t) (hg : g < B) : TkR B (w.setRow g cs') cs t := by
  obtain ⟨⟨s, A, c, u, e1, e2, e3, e4, e5, e6, e7, hr⟩, h2⟩ := h
  refine ⟨⟨s, A, c, u, e1, e2, e3, e4, e5, e6, e7, fun hp => ?_⟩, h2⟩
  obtain ⟨b0, off, rfl, hb, hc⟩ := hr hp
  have hcs : cs[2]? = some (.slice (some ⟨b0, off, none⟩) t.attrs.length c) := by
    rw [← Array.getElem?_toList, e1]
    rfl
  have hB := h2 _ _ _ hcs _ rfl
  dsimp only at hB
  refine ⟨b0, off, rfl, by simpa [World.setRow] using hb, fun j hj => ?_⟩
  obtain ⟨cs2, k1, k2⟩ := hc j hj
  refine ⟨cs2, k1, fun i hi => ?_⟩
  rw [World.cell?_of_block (w := w) (setRow_other w g b0 cs' (by omega))]
  exact k2 i hi
theorem TkR.mono {B B' : Nat} {w : World} {cs : Array Value} {t : Tk} (h : TkR B w cs t) (hB : B' ≤ B) : TkR B' w cs t := ⟨h.1, fun A n c e ad ea => Nat.le_trans hB (h.2 A n c e ad ea)⟩
def TkErr (l : List UInt8) (er : Int) : Prop := (er = 80 ∧ oneL l = none) ∨ (er = 4 ∧ ∃ t y, oneL l = some (t, y) ∧ 16 < t.attrs.length)
theorem one_shut (r : List UInt8) : oneL (60 :: 47 :: r) = shutL r := by
  unfold oneL
  dsimp only
  rw [if_pos rfl, tagL_47]
theorem one_tag (r : List UInt8) (h : r.head? ≠ some 47) : oneL (60 :: r) = (if fullL (r.takeWhile wch) = true then (match tagH (r.dropWhile wch) with
    | none => none
    | some (b, m, x) => if fresh [] m = true then some (⟨if b then 3 else 1, r.takeWhile wch, m, []⟩, x) else none) else none) := by
  unfold oneL
  dsimp only
  rw [if_pos rfl]
  cases hf : fullL (r.takeWhile wch) with
  | false =>
    rw [if_neg (by decide)]
    exact tagL_no h ((wordL_of r).2 hf)
  | true =>
    obtain ⟨h1, h2, h3⟩ := (wordL_of r).1 hf
    rw [if_pos rfl, tagL_H h h2, h3, h1]
    rfl
theorem one_text (c : UInt8) (r : List UInt8) (h : c ≠ 60) : oneL (c :: r) = (rd ((c :: r).takeWhile (ne 60))).map fun x => (⟨4, [], [], x⟩, (c :: r).dropWhile (ne 60)) := by
  show (if c = 60 then tagL r else _) = _
  rw [if_neg h, txt_ne]
theorem token_shut_yes (b : Nat) (s s2 t y : ByteArray) (w : World) (h : At9 b s w) (hs : s.data.toList = 60 :: 47 :: s2.data.toList) (hv : shutL s2.data.toList = some (⟨2, t.data.toList, [], []⟩, y.data.toList)) :
    Calls Tryz.prog 55 #[.pointer (some ⟨b, 0, none⟩)] w fun e w' => e = .returned (.agg #[.int .u8 2, .string t, .slice none 0 0, .string ⟨#[]⟩]) ∧ Went b y w w' := by
  have HGB : Hid (w.heap.size ≠ b) := Lib.hid (Nat.ne_of_gt h.rd.lt)
  have HBT : Hid (b < w.heap.size) := h.rd.lt
  have HA : Hid (At9 b s (w.alloc (.cells zTk 84))) := Lib.hid (h.alloc _)
  have HT1 : Hid (∀ o, Calls Tryz.prog 69 #[.pointer (some ⟨b, 0, none⟩), .string ⟨#[60, 47]⟩] (w.alloc o) fun e w' => e = .returned (.bool true) ∧ Went b s2 (w.alloc o) w') := Lib.hid fun o => take_yes b s s2 ⟨#[60, 47]⟩ (w.alloc o) (h.alloc o).rd (by rw [hs]; rfl)
  have HP2 : Hid (isP s2.data.toList = true) := Lib.hid (by have := h.tx; rw [hs] at this; exact beh_1 (beh_1 this (by decide)) (by decide))
  have HZ2 : Hid (s2.size ≤ 16384) := Lib.hid (by have := h.sz; have h2 := size_l hs; simp only [List.length_cons, ba_l] at h2; omega)
  have HSH : Hid (∀ W, At9 b s2 W → Calls Tryz.prog 70 #[.pointer (some ⟨b, 0, none⟩)] W fun e w' => e = .returned (.agg #[.int .u8 2, .string t, .slice none 0 0, .string ⟨#[]⟩]) ∧ Went b y W w') := Lib.hid fun W hW => shut_some b s2 t y W hW hv
  clear h hs hv
  go_enter Tryz.func55, Tryz.ntmps55
  go_wp2_with (first
    | (go_at_call 69; (with_reducible refine (HT1.out _).mono ?_); rintro e1 w1 ⟨rfl, hw1⟩; have HW1 : Hid (Went b s2 (w.alloc (.cells zTk 84)) w1) := Lib.hid hw1; clear hw1)
    | (go_at_call 70; (with_reducible refine (HSH.out w1 (HA.out.next HW1.out HP2.out HZ2.out)).mono ?_); rintro e3 w3 ⟨rfl, hw3⟩; have HW3 : Hid (Went b y (w.alloc (.cells zTk 84)) w3) := Lib.hid (HW1.out.trans hw3); have HG := Lib.hid (HW3.out.heap (heap_alloc_new w (.cells zTk 84)) HGB.out); clear hw3)
    | (refine wpList_store_row rfl _ _ _ rfl w.heap.size #[.int .u8 2, .string t, .slice none 0 0, .string ⟨#[]⟩] rfl rfl 84 zTk HG.out sizeTk rfl (oneTk _ _ _ _) ?_)
    | fail)
  exact bodyPost_ret (v := .agg #[.int .u8 2, .string t, .slice none 0 0, .string ⟨#[]⟩]) (results_cell_row rfl _ _ _ _ _ _ _ rfl (setRow_heap _ _ _ #[.int .u8 2, .string t, .slice none 0 0, .string ⟨#[]⟩] _ _ HG.out) Tryz.underlying84 rfl sizeTk) rfl ⟨rfl, (Went.after (stpA (Below.refl _ _) _) HW3.out).setRow _ _ (Nat.le_refl _) HBT.out⟩
theorem token_shut_no (b : Nat) (s s2 : ByteArray) (w : World) (h : At9 b s w) (hs : s.data.toList = 60 :: 47 :: s2.data.toList) (hv : shutL s2.data.toList = none) :
    Calls Tryz.prog 55 #[.pointer (some ⟨b, 0, none⟩)] w fun e w' => e = Thrown 80 ∧ ∃ u, Went b u w w' := by
  have HGB : Hid (w.heap.size ≠ b) := Lib.hid (Nat.ne_of_gt h.rd.lt)
  have HBT : Hid (b < w.heap.size) := h.rd.lt
  have HA : Hid (At9 b s (w.alloc (.cells zTk 84))) := Lib.hid (h.alloc _)
  have HT1 : Hid (∀ o, Calls Tryz.prog 69 #[.pointer (some ⟨b, 0, none⟩), .string ⟨#[60, 47]⟩] (w.alloc o) fun e w' => e = .returned (.bool true) ∧ Went b s2 (w.alloc o) w') := Lib.hid fun o => take_yes b s s2 ⟨#[60, 47]⟩ (w.alloc o) (h.alloc o).rd (by rw [hs]; rfl)
  have HP2 : Hid (isP s2.data.toList = true) := Lib.hid (by have := h.tx; rw [hs] at this; exact beh_1 (beh_1 this (by decide)) (by decide))
  have HZ2 : Hid (s2.size ≤ 16384) := Lib.hid (by have := h.sz; have h2 := size_l hs; simp only [List.length_cons, ba_l] at h2; omega)
  have HSH : Hid (∀ W, At9 b s2 W → Calls Tryz.prog 70 #[.pointer (some ⟨b, 0, none⟩)] W fun e w' => e = Thrown 80 ∧ ∃ u, Went b u W w') := Lib.hid fun W hW => shut_none b s2 W hW hv
  unfold Thrown at HSH ⊢
  clear h hs hv
  go_enter Tryz.func55, Tryz.ntmps55
  go_wp2_with (first
    | (go_at_call 69; (with_reducible refine (HT1.out _).mono ?_); rintro e1 w1 ⟨rfl, hw1⟩; have HW1 : Hid (Went b s2 (w.alloc (.cells zTk 84)) w1) := Lib.hid hw1; clear hw1)
    | (go_at_call 70; (with_reducible refine (HSH.out w1 (HA.out.next HW1.out HP2.out HZ2.out)).mono ?_); rintro e3 w3 ⟨rfl, u3, hw3⟩)
    | fail)
  (try simp only [Exit.inBlock, Exit.then, Exit.noGoto])
  exact ⟨rfl, rfl, _, Went.after (stpA (Below.refl _ _) _) (HW1.out.trans hw3)⟩
theorem token_tag_yes (b : Nat) (s s1 t y : ByteArray) (q : Bool) (k : Nat) (m : List Pr) (w : World) (h : At9 b s w) (hs : s.data.toList = 60 :: s1.data.toList) (h47 : s1.data.toList.head? ≠ some 47) (hf : fullL (s1.data.toList.takeWhile wch) = true) (ht : t.data.toList = s1.data.toList.takeWhile wch) (ho : tagOut (s1.data.toList.dropWhile wch) = .ok (q, m, y.data.toList)) (hk : k = if q then 3 else 1) :
    Calls Tryz.prog 55 #[.pointer (some ⟨b, 0, none⟩)] w fun e w' => ∃ (A : Option Addr) (n c : Nat), m.length = n ∧ e = .returned (.agg #[.int .u8 (k : Int), .string t, .slice A n c, .string ⟨#[]⟩]) ∧ Went b y w w' ∧ TkR w.heap.size w' #[.int .u8 (k : Int), .string t, .slice A n c, .string ⟨#[]⟩] ⟨k, t.data.toList, m, []⟩ := by
  have HGB : Hid (w.heap.size ≠ b) := Lib.hid (Nat.ne_of_gt h.rd.lt)
  have HBT : Hid (b < w.heap.size) := h.rd.lt
  have HA : Hid (At9 b s (w.alloc (.cells zTk 84))) := Lib.hid (h.alloc _)
  have HT1 : Hid (∀ o, Calls Tryz.prog 69 #[.pointer (some ⟨b, 0, none⟩), .string ⟨#[60, 47]⟩] (w.alloc o) fun e w' => e = .returned (.bool false) ∧ Went b s (w.alloc o) w') := Lib.hid fun o => take_no b s ⟨#[60, 47]⟩ (w.alloc o) (h.alloc o).rd (by rw [hs]; rintro ⟨r, e⟩; injection e with _ e; exact h47 (by rw [← e]; rfl))
  have HT2 : Hid (∀ W, Rd b s W → Calls Tryz.prog 69 #[.pointer (some ⟨b, 0, none⟩), .string ⟨#[60]⟩] W fun e w' => e = .returned (.bool true) ∧ Went b s1 W w') := Lib.hid fun W hW => take_yes b s s1 ⟨#[60]⟩ W hW (by rw [hs]; rfl)
  have HP2 : Hid (isP s1.data.toList = true) := Lib.hid (by have := h.tx; rw [hs] at this; exact beh_1 this (by decide))
  have HZ2 : Hid (s1.size ≤ 16384) := Lib.hid (by have h2 := size_l hs; have := h.sz; simp only [List.length_cons, ba_l] at h2; omega)
  have HSH : Hid (∀ W, At9 b s1 W → Calls Tryz.prog 71 #[.pointer (some ⟨b, 0, none⟩)] W fun e w' => ∃ (A : Option Addr) (n c : Nat), m.length = n ∧ e = .returned (.agg #[.int .u8 (k : Int), .string t, .slice A n c, .string ⟨#[]⟩]) ∧ Went b y W w' ∧ TkR W.heap.size w' #[.int .u8 (k : Int), .string t, .slice A n c, .string ⟨#[]⟩] ⟨k, t.data.toList, m, []⟩) := Lib.hid fun W hW => tag_ok b s1 t y q k m W hW hf ht ho hk
  clear h hs h47 hf ht ho hk
  go_enter Tryz.func55, Tryz.ntmps55
  go_wp2_with (first
    | (go_at_call 69; (with_reducible refine (HT1.out _).mono ?_); rintro e1 w1 ⟨rfl, hw1⟩; have HW1 : Hid (Went b s (w.alloc (.cells zTk 84)) w1) := Lib.hid hw1; clear hw1)
    | (go_at_call 69; (with_reducible refine (HT2.out w1 HW1.out.rd).mono ?_); rintro e2 w2 ⟨rfl, hw2⟩; have HW2 : Hid (Went b s1 (w.alloc (.cells zTk 84)) w2) := Lib.hid (HW1.out.trans hw2); clear hw2)
    | (go_at_call 71; (with_reducible refine (HSH.out w2 (HA.out.next HW2.out HP2.out HZ2.out)).mono ?_); rintro e3 w3 ⟨A, n, c, hn, rfl, hw3, hR⟩; have HN := Lib.hid hn; have HR : Hid (TkR (w.heap.size + 1) w3 #[.int .u8 (k : Int), .string t, .slice A n c, .string ⟨#[]⟩] ⟨k, t.data.toList, m, []⟩) := Lib.hid (hR.mono (by have := HW2.out.gr.size; simp at this; omega)); have HW3 : Hid (Went b y (w.alloc (.cells zTk 84)) w3) := Lib.hid (HW2.out.trans hw3); have HG := Lib.hid (HW3.out.heap (heap_alloc_new w (.cells zTk 84)) HGB.out); clear hw3 hR hn)
    | (refine wpList_store_row rfl _ _ _ rfl w.heap.size #[.int .u8 (k : Int), .string t, .slice A n c, .string ⟨#[]⟩] rfl rfl 84 zTk HG.out sizeTk rfl (oneTk _ _ _ _) ?_)
    | fail)
  exact bodyPost_ret (v := .agg #[.int .u8 (k : Int), .string t, .slice A n c, .string ⟨#[]⟩]) (results_cell_row rfl _ _ _ _ _ _ _ rfl (setRow_heap _ _ _ #[.int .u8 (k : Int), .string t, .slice A n c, .string ⟨#[]⟩] _ _ HG.out) Tryz.underlying84 rfl sizeTk) rfl ⟨_, _, _, HN.out, rfl, (Went.after (stpA (Below.refl _ _) _) HW3.out).setRow _ _ (Nat.le_refl _) HBT.out, (HR.out.setRow (Nat.lt_succ_self _)).mono (Nat.le_succ _)⟩
theorem token_tag_no (b : Nat) (s s1 : ByteArray) (er : Int) (w : World) (h : At9 b s w) (hs : s.data.toList = 60 :: s1.data.toList) (h47 : s1.data.toList.head? ≠ some 47) (hf : (fullL (s1.data.toList.takeWhile wch) = false ∧ er = 80) ∨ (fullL (s1.data.toList.takeWhile wch) = true ∧ tagOut (s1.data.toList.dropWhile wch) = .error er)) :
    Calls Tryz.prog 55 #[.pointer (some ⟨b, 0, none⟩)] w fun e w' => e = Thrown er ∧ ∃ u, Went b u w w' := by
  have HGB : Hid (w.heap.size ≠ b) := Lib.hid (Nat.ne_of_gt h.rd.lt)
  have HBT : Hid (b < w.heap.size) := h.rd.lt
  have HA : Hid (At9 b s (w.alloc (.cells zTk 84))) := Lib.hid (h.alloc _)
  have HT1 : Hid (∀ o, Calls Tryz.prog 69 #[.pointer (some ⟨b, 0, none⟩), .string ⟨#[60, 47]⟩] (w.alloc o) fun e w' => e = .returned (.bool false) ∧ Went b s (w.alloc o) w') := Lib.hid fun o => take_no b s ⟨#[60, 47]⟩ (w.alloc o) (h.alloc o).rd (by rw [hs]; rintro ⟨r, e⟩; injection e with _ e; exact h47 (by rw [← e]; rfl))
  have HT2 : Hid (∀ W, Rd b s W → Calls Tryz.prog 69 #[.pointer (some ⟨b, 0, none⟩), .string ⟨#[60]⟩] W fun e w' => e = .returned (.bool true) ∧ Went b s1 W w') := Lib.hid fun W hW => take_yes b s s1 ⟨#[60]⟩ W hW (by rw [hs]; rfl)
  have HP2 : Hid (isP s1.data.toList = true) := Lib.hid (by have := h.tx; rw [hs] at this; exact beh_1 this (by decide))
  have HZ2 : Hid (s1.size ≤ 16384) := Lib.hid (by have h2 := size_l hs; have := h.sz; simp only [List.length_cons, ba_l] at h2; omega)
  have HSH : Hid (∀ W, At9 b s1 W → Calls Tryz.prog 71 #[.pointer (some ⟨b, 0, none⟩)] W fun e w' => e = Thrown er ∧ ∃ u, Went b u W w') := Lib.hid fun W hW => tag_err b s1 er W hW hf
  unfold Thrown at HSH ⊢
  clear h hs h47 hf
  go_enter Tryz.func55, Tryz.ntmps55
  go_wp2_with (first
    | (go_at_call 69; (with_reducible refine (HT1.out _).mono ?_); rintro e1 w1 ⟨rfl, hw1⟩; have HW1 : Hid (Went b s (w.alloc (.cells zTk 84)) w1) := Lib.hid hw1; clear hw1)
    | (go_at_call 69; (with_reducible refine (HT2.out w1 HW1.out.rd).mono ?_); rintro e2 w2 ⟨rfl, hw2⟩; have HW2 : Hid (Went b s1 (w.alloc (.cells zTk 84)) w2) := Lib.hid (HW1.out.trans hw2); clear hw2)
    | (go_at_call 71; (with_reducible refine (HSH.out w2 (HA.out.next HW2.out HP2.out HZ2.out)).mono ?_); rintro e3 w3 ⟨rfl, u3, hw3⟩)
    | fail)
  (try simp only [Exit.inBlock, Exit.then, Exit.noGoto])
  exact ⟨rfl, rfl, _, Went.after (stpA (Below.refl _ _) _) (HW2.out.trans hw3)⟩
theorem token_text_yes (b : Nat) (s raw y v : ByteArray) (w : World) (h : At9 b s w) (hs : ∀ r, s.data.toList ≠ 60 :: r) (hraw : raw.data.toList = s.data.toList.takeWhile (ne 60)) (hy : y.data.toList = s.data.toList.dropWhile (ne 60)) (hv : rd raw.data.toList = some v.data.toList) :
    Calls Tryz.prog 55 #[.pointer (some ⟨b, 0, none⟩)] w fun e w' => e = .returned (.agg #[.int .u8 4, .string ⟨#[]⟩, .slice none 0 0, .string v]) ∧ Went b y w w' := by
  have HGB : Hid (w.heap.size ≠ b) := Lib.hid (Nat.ne_of_gt h.rd.lt)
  have HBT : Hid (b < w.heap.size) := h.rd.lt
  have HA : Hid (At9 b s (w.alloc (.cells zTk 84))) := Lib.hid (h.alloc _)
  have HT1 : Hid (∀ o, Calls Tryz.prog 69 #[.pointer (some ⟨b, 0, none⟩), .string ⟨#[60, 47]⟩] (w.alloc o) fun e w' => e = .returned (.bool false) ∧ Went b s (w.alloc o) w') := Lib.hid fun o => take_no b s ⟨#[60, 47]⟩ (w.alloc o) (h.alloc o).rd (by rintro ⟨r, e⟩; exact hs _ e.symm)
  have HT2 : Hid (∀ W, Rd b s W → Calls Tryz.prog 69 #[.pointer (some ⟨b, 0, none⟩), .string ⟨#[60]⟩] W fun e w' => e = .returned (.bool false) ∧ Went b s W w') := Lib.hid fun W hW => take_no b s ⟨#[60]⟩ W hW (pre1 hs)
  have hsz := h.sz
  have hrs : raw.size ≤ 16384 := by
    have := congrArg List.length (tw_split (ne 60) s.data.toList).1
    rw [List.length_append, ← hraw, ba_l, ba_l] at this
    omega
  have HU : Hid (∀ W, Rd b s W → Calls Tryz.prog 73 #[.pointer (some ⟨b, 0, none⟩), .string ⟨#[60]⟩] W fun e w' => e = .returned (.string raw) ∧ Went b y W w') := Lib.hid fun W hW => until_60 b s raw y W hW (by omega) hraw hy
  have hrp : isP raw.data.toList = true := by
    rw [hraw]
    have htx := h.tx
    have e := (tw_split (ne 60) s.data.toList).1
    cases hd : s.data.toList.dropWhile (ne 60) with
    | nil => rw [hd, List.append_nil] at e; rw [← e]; exact htx
    | cons d r =>
      rw [hd] at e
      rw [e] at htx
      exact (isP_split htx (by rw [ne_head hd]; decide)).1
  have HPL : Hid (∀ W, Ev9 W → Calls Tryz.prog 72 #[.string raw] W fun e w' => e = .returned (.string v) ∧ Below W.heap.size W w') := Lib.hid fun W hW => plain_yes raw v W hrp hrs hv hW.err
  clear h hs hraw hy hv hsz hrs hrp
  go_enter Tryz.func55, Tryz.ntmps55
  go_wp2_with (first
    | (go_at_call 69; (with_reducible refine (HT1.out _).mono ?_); rintro e1 w1 ⟨rfl, hw1⟩; have HW1 : Hid (Went b s (w.alloc (.cells zTk 84)) w1) := Lib.hid hw1; clear hw1)
    | (go_at_call 69; (with_reducible refine (HT2.out w1 HW1.out.rd).mono ?_); rintro e2 w2 ⟨rfl, hw2⟩; have HW2 : Hid (Went b s (w.alloc (.cells zTk 84)) w2) := Lib.hid (HW1.out.trans hw2); clear hw2)
    | (go_at_call 73; (with_reducible refine (HU.out w2 HW2.out.rd).mono ?_); rintro e3 w3 ⟨rfl, hw3⟩; have HW3 : Hid (Went b y (w.alloc (.cells zTk 84)) w3) := Lib.hid (HW2.out.trans hw3); clear hw3)
    | (go_at_call 72; (with_reducible refine (HPL.out w3 (HW3.out.ev HA.out.rd HA.out.ev)).mono ?_); rintro e4 w4 ⟨rfl, hb4⟩; have HW4 : Hid (Went b y (w.alloc (.cells zTk 84)) w4) := Lib.hid (HW3.out.then hb4); have HG := Lib.hid (HW4.out.heap (heap_alloc_new w (.cells zTk 84)) HGB.out); clear hb4)
    | (refine wpList_store_row rfl _ _ _ rfl w.heap.size #[.int .u8 4, .string ⟨#[]⟩, .slice none 0 0, .string v] rfl rfl 84 zTk HG.out sizeTk rfl (oneTk _ _ _ _) ?_)
    | fail)
  exact bodyPost_ret (v := .agg #[.int .u8 4, .string ⟨#[]⟩, .slice none 0 0, .string v]) (results_cell_row rfl _ _ _ _ _ _ _ rfl (setRow_heap _ _ _ #[.int .u8 4, .string ⟨#[]⟩, .slice none 0 0, .string v] _ _ HG.out) Tryz.underlying84 rfl sizeTk) rfl ⟨rfl, (Went.after (stpA (Below.refl _ _) _) HW4.out).setRow _ _ (Nat.le_refl _) HBT.out⟩
theorem token_text_no (b : Nat) (s raw y : ByteArray) (w : World) (h : At9 b s w) (hs : ∀ r, s.data.toList ≠ 60 :: r) (hraw : raw.data.toList = s.data.toList.takeWhile (ne 60)) (hy : y.data.toList = s.data.toList.dropWhile (ne 60)) (hv : rd raw.data.toList = none) :
    Calls Tryz.prog 55 #[.pointer (some ⟨b, 0, none⟩)] w fun e w' => e = Thrown 80 ∧ ∃ u, Went b u w w' := by
  have HGB : Hid (w.heap.size ≠ b) := Lib.hid (Nat.ne_of_gt h.rd.lt)
  have HBT : Hid (b < w.heap.size) := h.rd.lt
  have HA : Hid (At9 b s (w.alloc (.cells zTk 84))) := Lib.hid (h.alloc _)
  have HT1 : Hid (∀ o, Calls Tryz.prog 69 #[.pointer (some ⟨b, 0, none⟩), .string ⟨#[60, 47]⟩] (w.alloc o) fun e w' => e = .returned (.bool false) ∧ Went b s (w.alloc o) w') := Lib.hid fun o => take_no b s ⟨#[60, 47]⟩ (w.alloc o) (h.alloc o).rd (by rintro ⟨r, e⟩; exact hs _ e.symm)
  have HT2 : Hid (∀ W, Rd b s W → Calls Tryz.prog 69 #[.pointer (some ⟨b, 0, none⟩), .string ⟨#[60]⟩] W fun e w' => e = .returned (.bool false) ∧ Went b s W w') := Lib.hid fun W hW => take_no b s ⟨#[60]⟩ W hW (pre1 hs)
  have hsz := h.sz
  have hrs : raw.size ≤ 16384 := by
    have := congrArg List.length (tw_split (ne 60) s.data.toList).1
    rw [List.length_append, ← hraw, ba_l, ba_l] at this
    omega
  have HU : Hid (∀ W, Rd b s W → Calls Tryz.prog 73 #[.pointer (some ⟨b, 0, none⟩), .string ⟨#[60]⟩] W fun e w' => e = .returned (.string raw) ∧ Went b y W w') := Lib.hid fun W hW => until_60 b s raw y W hW (by omega) hraw hy
  have hrp : isP raw.data.toList = true := by
    rw [hraw]
    have htx := h.tx
    have e := (tw_split (ne 60) s.data.toList).1
    cases hd : s.data.toList.dropWhile (ne 60) with
    | nil => rw [hd, List.append_nil] at e; rw [← e]; exact htx
    | cons d r =>
      rw [hd] at e
      rw [e] at htx
      exact (isP_split htx (by rw [ne_head hd]; decide)).1
  have HPL : Hid (∀ W, Ev9 W → Calls Tryz.prog 72 #[.string raw] W fun e w' => e = Thrown 80 ∧ Below W.heap.size W w') := Lib.hid fun W hW => plain_no raw W hrp hrs hv hW.err
  unfold Thrown at HPL ⊢
  clear h hs hraw hy hv hsz hrs hrp
  go_enter Tryz.func55, Tryz.ntmps55
  go_wp2_with (first
    | (go_at_call 69; (with_reducible refine (HT1.out _).mono ?_); rintro e1 w1 ⟨rfl, hw1⟩; have HW1 : Hid (Went b s (w.alloc (.cells zTk 84)) w1) := Lib.hid hw1; clear hw1)
    | (go_at_call 69; (with_reducible refine (HT2.out w1 HW1.out.rd).mono ?_); rintro e2 w2 ⟨rfl, hw2⟩; have HW2 : Hid (Went b s (w.alloc (.cells zTk 84)) w2) := Lib.hid (HW1.out.trans hw2); clear hw2)
    | (go_at_call 73; (with_reducible refine (HU.out w2 HW2.out.rd).mono ?_); rintro e3 w3 ⟨rfl, hw3⟩; have HW3 : Hid (Went b y (w.alloc (.cells zTk 84)) w3) := Lib.hid (HW2.out.trans hw3); clear hw3)
    | (go_at_call 72; (with_reducible refine (HPL.out w3 (HW3.out.ev HA.out.rd HA.out.ev)).mono ?_); rintro e4 w4 ⟨rfl, hb4⟩)
    | fail)
  (try simp only [Exit.inBlock, Exit.then, Exit.noGoto])
  exact ⟨rfl, rfl, _, Went.after (stpA (Below.refl _ _) _) (HW3.out.then hb4)⟩
theorem token_some (b : Nat) (s y : ByteArray) (t : Tk) (w : World) (h : At9 b s w) (ho : oneL s.data.toList = some (t, y.data.toList)) (h16 : t.attrs.length ≤ 16) :
    Calls Tryz.prog 55 #[.pointer (some ⟨b, 0, none⟩)] w fun e w' => ∃ (x : ByteArray) (A : Option Addr) (n c : Nat) (u : ByteArray), t.attrs.length = n ∧ e = .returned (.agg #[.int .u8 (t.kind : Int), .string x, .slice A n c, .string u]) ∧ Went b y w w' ∧ TkR w.heap.size w' #[.int .u8 (t.kind : Int), .string x, .slice A n c, .string u] t := by
  cases hs : s.data.toList with
  | nil => rw [hs] at ho; cases ho
  | cons c r =>
    by_cases hc : c = 60
    · subst hc
      by_cases h47 : r.head? = some 47
      · obtain ⟨r2, rfl⟩ : ∃ r2, r = 47 :: r2 := by
          cases r with
          | nil => cases h47
          | cons d r2 => injection h47 with h47; exact ⟨r2, by rw [h47]⟩
        rw [hs, one_shut] at ho
        obtain ⟨s2, hs2⟩ := mk_l r2
        rw [← hs2] at ho hs
        obtain ⟨_, _, hfn, _, e⟩ := (shutL_iff _ _ _).1 ho
        obtain ⟨x, hx⟩ := mk_l t.name
        rw [e, ← hx] at ho
        refine (token_shut_yes b s s2 x y w h hs ho).mono fun e' w' ⟨k1, k2⟩ => ⟨x, none, 0, 0, ⟨#[]⟩, by rw [e]; rfl, by rw [k1, e]; rfl, k2, ?_⟩
        have := TkR_plain w.heap.size w' 2 (by decide) x
        rw [e, ← hx]
        exact this
      · rw [hs, one_tag r h47] at ho
        obtain ⟨s1, hs1⟩ := mk_l r
        rw [← hs1] at ho hs h47
        cases hf : fullL (s1.data.toList.takeWhile wch) with
        | false => rw [hf, if_neg (by decide)] at ho; cases ho
        | true =>
          rw [hf, if_pos rfl] at ho
          cases hH : tagH (s1.data.toList.dropWhile wch) with
          | none => rw [hH] at ho; cases ho
          | some p =>
            obtain ⟨q, m, x⟩ := p
            rw [hH] at ho
            dsimp only at ho
            cases hfr : fresh [] m with
            | false => rw [hfr, if_neg (by decide)] at ho; cases ho
            | true =>
              rw [hfr, if_pos rfl] at ho
              obtain ⟨e1, e2⟩ := (Prod.mk.injEq _ _ _ _).mp (Option.some.inj ho)
              obtain ⟨nm, hnm⟩ := mk_l (s1.data.toList.takeWhile wch)
              rw [← hnm] at e1
              subst e1
              dsimp only at h16
              have hout : tagOut (s1.data.toList.dropWhile wch) = .ok (q, m, y.data.toList) := by rw [tagOut_some hH, hfr, if_pos rfl, if_neg (by omega), e2]
              exact (token_tag_yes b s s1 nm y q _ m w h hs h47 hf hnm hout rfl).mono fun e' w' ⟨A, n, c, k1, k2, k3, k4⟩ => ⟨nm, A, n, c, ⟨#[]⟩, k1, k2, k3, k4⟩
    · rw [hs, one_text c r hc, ← hs] at ho
      obtain ⟨raw, hraw⟩ := mk_l (s.data.toList.takeWhile (ne 60))
      rw [← hraw] at ho
      cases hr : rd raw.data.toList with
      | none => rw [hr] at ho; cases ho
      | some z =>
        rw [hr] at ho
        obtain ⟨e1, e2⟩ := (Prod.mk.injEq _ _ _ _).mp (Option.some.inj ho)
        obtain ⟨v, hv⟩ := mk_l z
        subst e1 hv
        refine (token_text_yes b s raw y v w h (by rw [hs]; intro r' e; injection e with e _; exact hc e) hraw e2.symm hr).mono fun e' w' ⟨k1, k2⟩ => ⟨⟨#[]⟩, none, 0, 0, v, rfl, k1, k2, ?_⟩
        exact ⟨⟨⟨#[]⟩, none, 0, v, rfl, (show 4 < 256 by decide), rfl, rfl, Nat.le_refl _, Nat.zero_le _, fun _ => rfl, RdC.nil _ _ _⟩, fun A n c h ad e => by
          have h' : Value.slice none 0 0 = .slice A n c := Option.some.inj h
          injection h' with h1 _ _
          subst h1
          cases e⟩
theorem token_bad (b : Nat) (s : ByteArray) (er : Int) (w : World) (h : At9 b s w) (h0 : s.data.toList ≠ []) (ho : TkErr s.data.toList er) :
    Calls Tryz.prog 55 #[.pointer (some ⟨b, 0, none⟩)] w fun e w' => e = Thrown er ∧ ∃ u, Went b u w w' := by
  cases hs : s.data.toList with
  | nil => exact absurd hs h0
  | cons c r =>
    by_cases hc : c = 60
    · subst hc
      by_cases h47 : r.head? = some 47
      · obtain ⟨r2, rfl⟩ : ∃ r2, r = 47 :: r2 := by
          cases r with
          | nil => cases h47
          | cons d r2 => injection h47 with h47; exact ⟨r2, by rw [h47]⟩
        unfold TkErr at ho
        rw [hs, one_shut] at ho
        obtain ⟨s2, hs2⟩ := mk_l r2
        rw [← hs2] at ho hs
        rcases ho with ⟨rfl, ho⟩ | ⟨_, t, y', ho, h16⟩
        · exact token_shut_no b s s2 w h hs ho
        · obtain ⟨_, _, _, _, e⟩ := (shutL_iff _ _ _).1 ho
          rw [e] at h16
          simp at h16
      · unfold TkErr at ho
        rw [hs, one_tag r h47] at ho
        obtain ⟨s1, hs1⟩ := mk_l r
        rw [← hs1] at ho hs h47
        refine token_tag_no b s s1 er w h hs h47 ?_
        cases hf : fullL (s1.data.toList.takeWhile wch) with
        | false =>
          rw [hf, if_neg (by decide)] at ho
          rcases ho with ⟨rfl, _⟩ | ⟨_, t, y', ho, _⟩
          · exact .inl ⟨rfl, rfl⟩
          · cases ho
        | true =>
          rw [hf, if_pos rfl] at ho
          refine .inr ⟨rfl, ?_⟩
          cases hH : tagH (s1.data.toList.dropWhile wch) with
          | none =>
            rw [hH] at ho
            rcases ho with ⟨rfl, _⟩ | ⟨_, t, y', ho, _⟩
            · exact tagOut_none hH
            · cases ho
          | some p =>
            obtain ⟨q, m, x⟩ := p
            rw [hH] at ho
            dsimp only at ho
            rw [tagOut_some hH]
            cases hfr : fresh [] m with
            | false =>
              rw [hfr, if_neg (by decide)] at ho
              rcases ho with ⟨rfl, _⟩ | ⟨_, t, y', ho, _⟩
              · rw [if_neg (by decide)]
              · cases ho
            | true =>
              rw [hfr, if_pos rfl] at ho
              rcases ho with ⟨_, ho⟩ | ⟨rfl, t, y', ho, h16⟩
              · cases ho
              · obtain ⟨e1, _⟩ := (Prod.mk.injEq _ _ _ _).mp (Option.some.inj ho)
                rw [← e1] at h16
                dsimp only at h16
                rw [if_pos rfl, if_pos h16]
    · unfold TkErr at ho
      rw [hs, one_text c r hc, ← hs] at ho
      obtain ⟨raw, hraw⟩ := mk_l (s.data.toList.takeWhile (ne 60))
      obtain ⟨y, hy⟩ := mk_l (s.data.toList.dropWhile (ne 60))
      rw [← hraw] at ho
      cases hr : rd raw.data.toList with
      | none =>
        rw [hr] at ho
        rcases ho with ⟨rfl, _⟩ | ⟨_, t, y', ho, _⟩
        · exact token_text_no b s raw y w h (by rw [hs]; intro r' e; injection e with e _; exact hc e) hraw hy hr
        · cases ho
      | some z =>
        rw [hr] at ho
        rcases ho with ⟨_, ho⟩ | ⟨_, t, y', ho, h16⟩
        · cases ho
        · obtain ⟨e1, _⟩ := (Prod.mk.injEq _ _ _ _).mp (Option.some.inj ho)
          rw [← e1] at h16
          simp at h16
theorem run_assert9 (xT : TypeId) (v : Value) (w : World) : (Instr.typeAssert (.iface 25 v) xT 25 false).run Tryz.prog w = .ok v w := by
  simp [Instr.typeAssert, run_underlying Tryz.underlying25, Result.andThen]
theorem catch_p (p q : Nat) (hpq : p < q) (v : Value) (x er : Int) (older : List PanicEntry) (w : World) (hl : w.heap[p]? = some (.cells #[v] 67 (0, 0))) (he : w.heap[q]? = some (.cells #[.int .i64 x] 25 (0, 0))) :
    CallsD Tryz.prog 54 #[.pointer (some ⟨p, 0, none⟩), .pointer (some ⟨q, 0, none⟩)] (.panicking ({ v := .iface 25 (.int .i64 er), recovered := false } :: older)) w fun e u' w' =>
      e = .returned (.tuple #[]) ∧ u' = .panicking ({ v := .iface 25 (.int .i64 er), recovered := true } :: older) ∧ w'.heap[p]? = some (.cells #[.slice none 0 0] 67 (0, 0)) ∧ w'.heap[q]? = some (.cells #[.int .i64 er] 25 (0, 0)) ∧ Below p w w' := by
  have k1 : w.cell? ⟨p, 0, none⟩ = some v := cellV w p 0 _ _ _ hl
  have k2 : w.cell? ⟨q, 0, none⟩ = some (.int .i64 x) := cellV w q 0 _ _ _ he
  have f1 : w.frozen? ⟨p, 0, none⟩ = false := freeV w p 0 _ _ hl
  have f2 : w.frozen? ⟨q, 0, none⟩ = false := freeV w q 0 _ _ he
  have HL := Lib.hid hl
  have HE := Lib.hid he
  have hne : ¬ q = p := by omega
  have hne2 : ¬ p = q := by omega
  have hta := fun xT => run_assert9 xT (.int .i64 er)
  have hl1 : ∀ y, (w.setCell ⟨p, 0, none⟩ y).heap[q]? = some (.cells #[.int .i64 x] 25 (0, 0)) := fun y => (set_other w p 0 q y hne).trans he
  have j2 : ∀ y, (w.setCell ⟨p, 0, none⟩ y).cell? ⟨q, 0, none⟩ = some (.int .i64 x) := fun y => cellV _ q 0 _ _ _ (hl1 y)
  have j3 : ∀ y, (w.setCell ⟨p, 0, none⟩ y).frozen? ⟨q, 0, none⟩ = false := fun y => freeV _ q 0 _ _ (hl1 y)
  clear hl he hl1
  refine callsD_of_wpS Tryz.func54 rfl fun c₀ cs hu => ?_
  apply wpS_seq
  apply wpS_region
  simp [wpOpsS, go_sem, recoverD, hu, Tryz.ntmps54, Exit.thenS]
  refine wpS_of_wp ?_
  rw [show (#[Value.pointer (some ⟨p, 0, none⟩), Value.pointer (some ⟨q, 0, none⟩)] ++ ((Array.replicate 6 undef).setIfInBounds 1 (Value.iface 25 (.int .i64 er))).setIfInBounds 0 (Value.iface 25 (.int .i64 er)) : Array Value) = #[Value.pointer (some ⟨p, 0, none⟩), Value.pointer (some ⟨q, 0, none⟩), Value.iface 25 (.int .i64 er), Value.iface 25 (.int .i64 er), undef, undef, undef, undef] from rfl]
  go_wp2_with fail
  go_region
  have e1 : (w.setCell ⟨p, 0, none⟩ (.slice none 0 0)).heap[p]? = some (.cells #[.slice none 0 0] 67 (0, 0)) := by simpa using set_same9 w p 0 _ _ (.slice none 0 0) HL.out
  have e2 : (w.setCell ⟨p, 0, none⟩ (.slice none 0 0)).heap[q]? = some (.cells #[.int .i64 x] 25 (0, 0)) := (set_other w p 0 q _ hne).trans HE.out
  have e3 : ((w.setCell ⟨p, 0, none⟩ (.slice none 0 0)).setCell ⟨q, 0, none⟩ (.int .i64 er)).heap[q]? = some (.cells #[.int .i64 er] 25 (0, 0)) := by simpa using set_same9 (w.setCell ⟨p, 0, none⟩ (.slice none 0 0)) q 0 _ _ (.int .i64 er) e2
  have e4 : ((w.setCell ⟨p, 0, none⟩ (.slice none 0 0)).setCell ⟨q, 0, none⟩ (.int .i64 er)).heap[p]? = some (.cells #[.slice none 0 0] 67 (0, 0)) := (set_other _ q 0 p _ hne2).trans e1
  have e5 : Below p w ((w.setCell ⟨p, 0, none⟩ (.slice none 0 0)).setCell ⟨q, 0, none⟩ (.int .i64 er)).drew := (((Below.refl p w).setCell (p := ⟨p, 0, none⟩) (Nat.le_refl _) _).setCell (p := ⟨q, 0, none⟩) (Nat.le_of_lt hpq) _).drew
  refine ⟨rfl, _, rfl, .tuple #[], ?_, rfl, rfl, e4, e3, e5⟩
  simp [results, Tryz.results54]
theorem catch_i (p q : Nat) (w : World) :
    CallsD Tryz.prog 54 #[.pointer (some ⟨p, 0, none⟩), .pointer (some ⟨q, 0, none⟩)] .returning w fun e u' w' => e = .returned (.tuple #[]) ∧ u' = .returning ∧ w' = w := by
  refine callsD_of_wpS Tryz.func54 rfl fun c₀ cs hu => ?_
  apply wpS_seq
  apply wpS_region
  simp [wpOpsS, go_sem, recoverD, hu, Tryz.ntmps54, Exit.thenS]
  refine wpS_of_wp ?_
  rw [show (#[Value.pointer (some ⟨p, 0, none⟩), Value.pointer (some ⟨q, 0, none⟩)] ++ ((Array.replicate 6 undef).setIfInBounds 1 Value.nilIface).setIfInBounds 0 Value.nilIface : Array Value) = #[Value.pointer (some ⟨p, 0, none⟩), Value.pointer (some ⟨q, 0, none⟩), Value.nilIface, Value.nilIface, undef, undef, undef, undef] from rfl]
  go_wp2_with fail
  refine ⟨rfl, .returning, by cases c₀; simp_all, .tuple #[], ?_, rfl, rfl, rfl⟩
  simp [results, Tryz.results54]
end Hx
end Go.Proofs.YtlhjcdkkmloamaaGreatDoor
