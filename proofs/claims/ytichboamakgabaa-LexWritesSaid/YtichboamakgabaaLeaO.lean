/-
  Package lex as it landed: Join.
-/
import Derived.Test.YtichboamakgabaaLeaN
import Derived.Test.YtichboamakgabaaLexF
import Derived.Test.YtichboamakgabaaLexV
namespace Go.Proofs.Ytichboamakgabaa
open Go.RowKit
namespace Hx
open Lx Tx Nmb Es
set_option linter.unusedVariables false
/-- Was the token ahead of place k a text? -/
def wasT (l : List Tk) : Nat → Bool
  | 0 => false
  | k + 1 => match l[k]? with | some t => decide (t.kind = 4) | none => false
theorem wasT_succ {l : List Tk} {k : Nat} (h : k < l.length) : wasT l (k + 1) = decide ((l[k]'h).kind = 4) := by
  show (match l[k]? with | some t => decide (t.kind = 4) | none => false) = _
  rw [List.getElem?_eq_getElem h]
theorem apart_on {l : List Tk} {k : Nat} (h : k < l.length) (hp : apart (l.take k) = true) (hb : (decide ((l[k]'h).kind = 4) && wasT l k) = false) : apart (l.take (k + 1)) = true := by
  cases k with
  | zero =>
    cases l with
    | nil => rfl
    | cons a r => rfl
  | succ k =>
    refine apart_next (by omega) h hp ?_
    rw [wasT_succ (by omega)] at hb
    rintro ⟨h1, h2⟩
    have h1' : (l[k]'(by omega)).kind = 4 := by simpa using h1
    simp [h1', h2] at hb
theorem apart_off {l : List Tk} {k : Nat} (h : k < l.length) (hb : (decide ((l[k]'h).kind = 4) && wasT l k) = true) : apart l = false := by
  cases k with
  | zero => simp [wasT] at hb
  | succ k =>
    rw [wasT_succ (by omega), Bool.and_eq_true, decide_eq_true_eq, decide_eq_true_eq] at hb
    exact apart_bad (by omega) h (by simpa using hb.2) hb.1
theorem flatT_le (l : List Tk) (k : Nat) : ((l.take k).flatMap writeT).length ≤ (l.flatMap writeT).length := by
  conv => rhs; rw [← List.take_append_drop k l]
  rw [List.flatMap_append, List.length_append]
  omega
theorem flatT_snoc {l : List Tk} {k : Nat} (h : k < l.length) : (l.take (k + 1)).flatMap writeT = (l.take k).flatMap writeT ++ writeT (l[k]'h) := by
  rw [List.take_succ_eq_append_getElem h, List.flatMap_append]
  simp [-List.take_append_getElem]
theorem flatA_ge : ∀ (l : List Pr), l.all fitP = false → 16384 < (l.flatMap writeA).length
  | [], h => by cases h
  | p :: l, h => by
    rw [List.flatMap_cons, List.length_append]
    rw [List.all_cons] at h
    cases hf : fitP p with
    | true =>
      rw [hf, Bool.true_and] at h
      have := flatA_ge l h
      omega
    | false =>
      have h4 : 16384 < (escL true p.value).length := by unfold fitP at hf; simpa using hf
      have h5 : (writeA p).length = p.name.length + (escL true p.value).length + 4 := by
        unfold writeA
        simp only [List.length_cons, List.length_append, List.length_nil]
        omega
      omega
theorem fitT_no {t : Tk} (hm : mayT t = true) (h : fitT t = false) : 16384 < (writeT t).length := by
  unfold fitT at h
  unfold writeT
  by_cases h4 : t.kind = 4
  · rw [if_pos h4] at h ⊢
    simpa using h
  · rw [if_neg h4] at h ⊢
    have := flatA_ge t.attrs h
    by_cases h2 : t.kind = 2
    · rcases mayT_cases hm with ⟨b, h1, _⟩ | ⟨_, _, h3, _⟩ | ⟨h1, _⟩
      · rw [h2] at h1; cases b <;> simp at h1
      · rw [h3] at h; cases h
      · exact absurd h1 h4
    · rw [if_neg h2]
      simp only [List.length_cons, List.length_append]
      omega
theorem writeT_fit {t : Tk} (hm : mayT t = true) (h : fitT t = true) (hs : Small t) : (writeT t).length ≤ 30000000 := by
  obtain ⟨s1, s2, s3, s4⟩ := hs
  unfold fitT at h
  unfold writeT
  by_cases h4 : t.kind = 4
  · rw [if_pos h4] at h ⊢
    simp at h
    omega
  · rw [if_neg h4] at h ⊢
    by_cases h2 : t.kind = 2
    · rw [if_pos h2]
      simp only [List.length_cons, List.length_append, List.length_nil]
      omega
    · rw [if_neg h2]
      have h5 := flatA_fit t.attrs h s4
      have h6 := (mayT_vals hm h4).1
      simp only [List.length_cons, List.length_append]
      split <;> simp only [List.length_cons, List.length_nil] <;> omega
theorem ba_mk9 (l : List UInt8) : (⟨l.toArray⟩ : ByteArray).data.toList = l := by simp
set_option maxHeartbeats 8000000 in
set_option maxRecDepth 100000 in
theorem join9q (A : Option Addr) (n cp : Nat) (l : List Tk) (w : World) (hr : RdC TkC w w.heap.size A l) (hn : l.length = n) (hm : n ≤ 1000000) (hsz : ∀ t ∈ l, Small t) (s : ByteArray) (e : Int) (h : joinR l = (s.data.toList, e)) :
    Calls Try.prog 7 #[.slice A n cp] w fun e' w' => e' = .returned (.tuple #[.string s, .int .i64 e]) ∧ Below w.heap.size w w' := by
  have HR := Lib.hid hr
  have HN := Lib.hid hn
  have HM := Lib.hid hm
  have HSZ := Lib.hid hsz
  have HBad : Hid (¬ (l.all mayT = true ∧ apart l = true) → s = ⟨#[]⟩ ∧ e = 8) := Lib.hid (by
    intro hb
    unfold joinR at h
    rw [if_neg hb] at h
    obtain ⟨h1, h2⟩ := (Prod.mk.injEq _ _ _ _).mp h
    exact ⟨ba_x (by rw [← h1]), h2.symm⟩)
  have HMany : Hid (l.all mayT = true → apart l = true → (512 < n ∨ 16384 < (l.flatMap writeT).length) → s = ⟨#[]⟩ ∧ e = 4) := Lib.hid (by
    intro h1 h2 h3
    unfold joinR at h
    rw [if_pos ⟨h1, h2⟩, hn, if_pos h3] at h
    obtain ⟨h1, h2⟩ := (Prod.mk.injEq _ _ _ _).mp h
    exact ⟨ba_x (by rw [← h1]), h2.symm⟩)
  have HGood : Hid (l.all mayT = true → apart l = true → n ≤ 512 → (l.flatMap writeT).length ≤ 16384 → s = ⟨(l.flatMap writeT).toArray⟩ ∧ e = 0) := Lib.hid (by
    intro h1 h2 h3 h4
    unfold joinR at h
    rw [if_pos ⟨h1, h2⟩, hn, if_neg (by omega)] at h
    obtain ⟨h1, h2⟩ := (Prod.mk.injEq _ _ _ _).mp h
    exact ⟨ba_x (by rw [← h1]), h2.symm⟩)
  clear hr hn h hsz
  go_enter Try.func7, Try.ntmps7
  go_wp2_with fail
  go_loopg [4, 15] n (fun gg vb vi wr => ∃ (k : Nat) (b : Bool), k + gg = n ∧ vi = .int .i64 k ∧ vb = .bool b ∧ wasT l k = b ∧ (l.take k).all mayT = true ∧ apart (l.take k) = true ∧ Below w.heap.size w wr)
  case atStart => exact ⟨0, false, by omega, rfl, rfl, rfl, rfl, rfl, Below.refl _ _⟩
  case round =>
    obtain ⟨k, b, hk, rfl, rfl, hwas, hall, hap, hbw⟩ := hrel
    have hMM := HM.out
    have HBW := Lib.hid hbw
    by_cases hlt : k < n
    · have hk1 : k < l.length := by rw [HN.out]; exact hlt
      obtain ⟨b0, off, x, u, a1, p1, rfl, hbB, c0, c1, c2, c3, htk⟩ := tk_at (HR.out.on hbw) hk1 (HSZ.out _ (List.getElem_mem hk1))
      obtain ⟨t, ht⟩ : ∃ t, l[k]'hk1 = t := ⟨_, rfl⟩
      rw [ht] at c0 c2 htk
      obtain ⟨z, hz⟩ : ∃ z : Int, (t.kind : Int) = z := ⟨_, rfl⟩
      obtain ⟨m, hmm⟩ : ∃ m, t.attrs.length = m := ⟨_, rfl⟩
      obtain ⟨q, hq⟩ : ∃ q, checkR t = q := ⟨_, rfl⟩
      have HCK : Hid (∀ o, Calls Try.prog 5 #[.agg #[.int .u8 z, .string x, .slice a1 m p1, .string u]] (wr.alloc o) fun e w' => e = .returned (.int .i64 q) ∧ Below (wr.alloc o).heap.size (wr.alloc o) w') := Lib.hid fun o => by
        have := check9q t x u a1 p1 (wr.alloc o) (htk.on ((Below.refl _ _).alloc (Nat.le_refl _) o)) q hq
        unfold TkV at this
        rw [hz, hmm] at this
        exact this
      rw [hz] at c0
      rw [hmm] at c2
      have HBO : Hid (∀ o, Below w.heap.size w (wr.alloc o)) := Lib.hid fun o => hbw.alloc hbw.size o
      have hcs : (q = 0 ∧ mayT t = true) ∨ (q = 8 ∧ mayT t = false) := by
        unfold checkR at hq
        cases hmt : mayT t with
        | true => rw [hmt] at hq; exact .inl ⟨hq.symm, rfl⟩
        | false => rw [hmt] at hq; exact .inr ⟨hq.symm, rfl⟩
      have bk : (0 : Int) ≤ (k : Int) ∧ (k : Int) < (n : Int) := by omega
      rcases hcs with ⟨rfl, hmt⟩ | ⟨rfl, hmt⟩
      · have hall' : (l.take (k + 1)).all mayT = true := by rw [List.take_succ_eq_append_getElem hk1, List.all_append, hall, ht]; simp [hmt]
        have HALL := Lib.hid hall'
        have hnew := wasT_succ hk1
        rw [ht] at hnew
        have hon := fun hb => apart_on hk1 hap hb
        have hoff := fun hb => apart_off hk1 hb
        rw [ht, hwas] at hon hoff
        by_cases h4 : z = 4
        · have q4 : (z == 4) = true := by simpa using h4
          rw [show t.kind = 4 by omega] at hon hoff hnew
          cases b with
          | true =>
            obtain ⟨rfl, rfl⟩ := HBad.out (fun hh => by rw [hoff (by decide)] at hh; exact absurd hh.2 (by decide))
            clear ht htk hbw hall hap hwas hz hmm hq hall' hnew hon hoff hmt h4
            go_wp2_with (first
              | (refine wpList_store_row rfl _ _ _ rfl wr.heap.size #[.int .u8 z, .string x, .slice a1 m p1, .string u] rfl rfl 26 zTk (heap_alloc_new _ _) sizeTk rfl (oneTk _ _ _ _) ?_; rw [World.setRow_alloc_new])
              | (refine wpList_load_row rfl _ _ rfl wr.heap.size rfl 26 #[.int .u8 z, .string x, .slice a1 m p1, .string u] (0, 0) _ (heap_alloc_new _ _) Try.underlying26 rfl sizeTk ?_)
              | (go_at_call 5; (with_reducible refine (HCK.out _).mono ?_); rintro e1 w1 ⟨rfl, hb1⟩; have d0 := (box_cell9 hb1 0 (.int .u8 z) rfl).1; have HB1 : Hid (Below w.heap.size w w1) := Lib.hid (stp (HBO.out _) hb1); clear hb1)
              | fail)
            go_ret2
            exact ⟨rfl, HB1.out⟩
          | false =>
            have HON := Lib.hid (hon (by decide))
            have HNEW : Hid (wasT l (k + 1) = true) := Lib.hid (by rw [hnew]; rfl)
            clear ht htk hbw hall hap hwas hz hmm hq hall' hnew hon hoff hmt h4
            go_wp2_with (first
              | (refine wpList_store_row rfl _ _ _ rfl wr.heap.size #[.int .u8 z, .string x, .slice a1 m p1, .string u] rfl rfl 26 zTk (heap_alloc_new _ _) sizeTk rfl (oneTk _ _ _ _) ?_; rw [World.setRow_alloc_new])
              | (refine wpList_load_row rfl _ _ rfl wr.heap.size rfl 26 #[.int .u8 z, .string x, .slice a1 m p1, .string u] (0, 0) _ (heap_alloc_new _ _) Try.underlying26 rfl sizeTk ?_)
              | (go_at_call 5; (with_reducible refine (HCK.out _).mono ?_); rintro e1 w1 ⟨rfl, hb1⟩; have d0 := (box_cell9 hb1 0 (.int .u8 z) rfl).1; have HB1 : Hid (Below w.heap.size w w1) := Lib.hid (stp (HBO.out _) hb1); clear hb1)
              | fail)
            go_roundg (gk - 1)
            case rel => exact ⟨k + 1, true, by omega, by go_num, by first | rfl | simp, HNEW.out, HALL.out, HON.out, HB1.out⟩
            case measure => omega
        · have q4 : (z == 4) = false := by simpa using h4
          rw [decide_eq_false (show ¬ t.kind = 4 by omega), Bool.false_and] at hon hoff
          rw [decide_eq_false (show ¬ t.kind = 4 by omega)] at hnew
          have HON := Lib.hid (hon rfl)
          have HNEW := Lib.hid hnew
          clear ht htk hbw hall hap hwas hz hmm hq hall' hnew hon hoff hmt h4
          go_wp2_with (first
            | (refine wpList_store_row rfl _ _ _ rfl wr.heap.size #[.int .u8 z, .string x, .slice a1 m p1, .string u] rfl rfl 26 zTk (heap_alloc_new _ _) sizeTk rfl (oneTk _ _ _ _) ?_; rw [World.setRow_alloc_new])
            | (refine wpList_load_row rfl _ _ rfl wr.heap.size rfl 26 #[.int .u8 z, .string x, .slice a1 m p1, .string u] (0, 0) _ (heap_alloc_new _ _) Try.underlying26 rfl sizeTk ?_)
            | (go_at_call 5; (with_reducible refine (HCK.out _).mono ?_); rintro e1 w1 ⟨rfl, hb1⟩; have d0 := (box_cell9 hb1 0 (.int .u8 z) rfl).1; have HB1 : Hid (Below w.heap.size w w1) := Lib.hid (stp (HBO.out _) hb1); clear hb1)
            | fail)
          go_roundg (gk - 1)
          case rel => exact ⟨k + 1, false, by omega, by go_num, by first | rfl | simp, HNEW.out, HALL.out, HON.out, HB1.out⟩
          case measure => omega
      · obtain ⟨rfl, rfl⟩ := HBad.out (fun hh => by
          have := List.all_eq_true.1 hh.1 _ (List.getElem_mem hk1)
          rw [ht, hmt] at this
          cases this)
        clear ht htk hbw hall hap hwas hz hmm hq hmt
        go_wp2_with (first
          | (refine wpList_store_row rfl _ _ _ rfl wr.heap.size #[.int .u8 z, .string x, .slice a1 m p1, .string u] rfl rfl 26 zTk (heap_alloc_new _ _) sizeTk rfl (oneTk _ _ _ _) ?_; rw [World.setRow_alloc_new])
          | (refine wpList_load_row rfl _ _ rfl wr.heap.size rfl 26 #[.int .u8 z, .string x, .slice a1 m p1, .string u] (0, 0) _ (heap_alloc_new _ _) Try.underlying26 rfl sizeTk ?_)
          | (go_at_call 5; (with_reducible refine (HCK.out _).mono ?_); rintro e1 w1 ⟨rfl, hb1⟩; have HB1 : Hid (Below w.heap.size w w1) := Lib.hid (stp (HBO.out _) hb1); clear hb1)
          | fail)
        go_ret2
        exact ⟨rfl, HB1.out⟩
    · obtain rfl : n = k := by omega
      have HAll : Hid (l.all mayT = true) := Lib.hid (by rwa [List.take_of_length_le (by rw [HN.out]; exact Nat.le_refl _)] at hall)
      have HAp : Hid (apart l = true) := Lib.hid (by rwa [List.take_of_length_le (by rw [HN.out]; exact Nat.le_refl _)] at hap)
      clear hall hap hwas hbw hlt hk
      by_cases h5 : 512 < n
      · have g5 : decide ((512 : Int) < (n : Int)) = true := decide_eq_true (by omega)
        obtain ⟨rfl, rfl⟩ := HMany.out HAll.out HAp.out (.inl h5)
        clear h5
        go_wp2_with fail
        go_ret2
        exact ⟨rfl, HBW.out⟩
      · have g5 : decide ((512 : Int) < (n : Int)) = false := decide_eq_false (by omega)
        have H5 : Hid (n ≤ 512) := Lib.hid (by omega)
        clear h5
        obtain ⟨B, hB⟩ : ∃ B, wr.heap.size = B := ⟨_, rfl⟩
        have hnewB := bld_new wr
        rw [hB] at hnewB
        have HNB := Lib.hid hnewB
        have HRW : Hid (RdC TkC wr B A l) := Lib.hid (hB ▸ HR.out.on HBW.out)
        have HBX : Hid (∀ o, Below B wr (wr.alloc o)) := Lib.hid fun o => (Below.refl _ _).alloc (by omega) o
        have HWB : Hid (∀ W, Below B wr W → Below w.heap.size w W) := Lib.hid fun W hW => HBW.out.trans (hW.mono (by have := HBW.out.size; omega))
        have HSB : Hid (wr.heap.size = B) := hB
        clear hnewB
        go_wp2_with fail
        obtain ⟨wo, rfl⟩ : ∃ wo : World, wo = wr := ⟨_, rfl⟩
        go_loopg [38] n (fun gg vi wr => ∃ (k : Nat), k + gg = n ∧ vi = .int .i64 k ∧ ((l.take k).flatMap writeT).length ≤ 16384 ∧ Bld B B ((l.take k).flatMap writeT) wr ∧ Below B wo wr)
        case atStart => exact ⟨0, by omega, rfl, Nat.zero_le _, HNB.out, HBX.out _⟩
        case round =>
          obtain ⟨k, hk, rfl, hlen, hbld, hbo⟩ := hrel
          have HBO2 := Lib.hid hbo
          have HBD := Lib.hid hbld
          have HSW : Hid (B ≤ wr.heap.size) := Lib.hid (HSB.out ▸ hbo.size)
          by_cases hlt : k < n
          · have hk1 : k < l.length := by rw [HN.out]; exact hlt
            obtain ⟨t, ht⟩ : ∃ t, l[k]'hk1 = t := ⟨_, rfl⟩
            have hsm := HSZ.out _ (List.getElem_mem hk1)
            have hmt := List.all_eq_true.1 HAll.out _ (List.getElem_mem hk1)
            obtain ⟨b0, off, rfl, hbB, hc⟩ := (HRW.out.below hbo) (by omega)
            obtain ⟨cs, ⟨x, a1, p1, u, rfl, hkd, hx, hu, hle, hmx, hnl, hrd⟩, hcell⟩ := hc k hk1
            have c0 : wr.cell? ⟨b0, off + k * 4, none⟩ = some (.int .u8 ((l[k]'hk1).kind : Int)) := hcell 0 (by simp)
            have c1 : wr.cell? ⟨b0, off + k * 4 + 1, none⟩ = some (.string x) := hcell 1 (by simp)
            have c2 : wr.cell? ⟨b0, off + k * 4 + 2, none⟩ = some (.slice a1 (l[k]'hk1).attrs.length p1) := hcell 2 (by simp)
            have c3 : wr.cell? ⟨b0, off + k * 4 + 3, none⟩ = some (.string u) := hcell 3 (by simp)
            have hsn := flatT_snoc hk1
            have hle2 := flatT_le l (k + 1)
            rw [ht] at hsm hmt hx hu hle hrd c0 c2 hsn
            have hpa : PutAt t x u a1 p1 B wr := ⟨hx, hu, hrd, hle, by rw [← ba_l, hx]; exact hsm.1, by rw [← ba_l, hu]; exact hsm.2.1, hsm.2.2.2, hmt⟩
            obtain ⟨z, hz⟩ : ∃ z : Int, (t.kind : Int) = z := ⟨_, rfl⟩
            obtain ⟨m, hmm⟩ : ∃ m, t.attrs.length = m := ⟨_, rfl⟩
            obtain ⟨q, hq⟩ : ∃ q : Int, (if fitT t then (0 : Int) else 4) = q := ⟨_, rfl⟩
            have HPUT : Hid (∀ o, Calls Try.prog 12 #[.pointer (some ⟨B, 0, none⟩), .agg #[.int .u8 z, .string x, .slice a1 m p1, .string u]] (wr.alloc o) fun e w' => e = .returned (.int .i64 q) ∧ (q = 0 → Bld B B ((l.take k).flatMap writeT ++ writeT t) w') ∧ Below B (wr.alloc o) w') := Lib.hid fun o => by
              have hbo2 : Below B wr (wr.alloc o) := (Below.refl _ _).alloc HSW.out o
              have := put9 B B ((l.take k).flatMap writeT) t x u a1 p1 (wr.alloc o) (hbld.alloc o) (by omega) ⟨hpa.name, hpa.text, hpa.attrs.below hbo2, hpa.le, hpa.ns, hpa.us, hpa.sz, hpa.may⟩ (Nat.le_trans HSW.out (by simp)) q hq
              unfold TkV at this
              rw [hz, hmm] at this
              exact this
            rw [hz] at c0
            rw [hmm] at c2
            have HBO3 : Hid (∀ o, Below B wo (wr.alloc o)) := Lib.hid fun o => hbo.alloc HSW.out o
            have bk : (0 : Int) ≤ (k : Int) ∧ (k : Int) < (n : Int) := by omega
            cases hfit : fitT t with
            | false =>
              rw [hfit] at hq
              obtain rfl : (4 : Int) = q := by simpa using hq
              have hbig := fitT_no hmt hfit
              obtain ⟨rfl, rfl⟩ := HMany.out HAll.out HAp.out (.inr (by rw [hsn, List.length_append] at hle2; omega))
              clear ht hsm hmt hc hx hu hle hmx hnl hrd hcell hsn hle2 hpa hz hmm hq hfit hbig hlen hbld hbo hkd hk1
              go_wp2_with (first
                | (refine wpList_store_row rfl _ _ _ rfl wr.heap.size #[.int .u8 z, .string x, .slice a1 m p1, .string u] rfl rfl 26 zTk (heap_alloc_new _ _) sizeTk rfl (oneTk _ _ _ _) ?_; rw [World.setRow_alloc_new])
                | (refine wpList_load_row rfl _ _ rfl wr.heap.size rfl 26 #[.int .u8 z, .string x, .slice a1 m p1, .string u] (0, 0) _ (heap_alloc_new _ _) Try.underlying26 rfl sizeTk ?_)
                | (go_at_call 12; (with_reducible refine (HPUT.out _).mono ?_); rintro e1 w1 ⟨rfl, _, hb1⟩; have HB1 : Hid (Below w.heap.size w w1) := Lib.hid (HWB.out _ ((HBO3.out _).trans hb1)); clear hb1)
                | fail)
              go_ret2
              exact ⟨rfl, HB1.out⟩
            | true =>
              rw [hfit] at hq
              obtain rfl : (0 : Int) = q := by simpa using hq
              have hwf := writeT_fit hmt hfit hsm
              obtain ⟨y, hy⟩ : ∃ y : ByteArray, y.data.toList = (l.take k).flatMap writeT ++ writeT t := ⟨⟨_⟩, ba_mk9 _⟩
              have hys : y.size = ((l.take (k + 1)).flatMap writeT).length := by rw [hsn, ← hy, ba_l]
              rw [← hy] at HPUT
              have HY : Hid (y.data.toList = (l.take (k + 1)).flatMap writeT) := Lib.hid (by rw [hy, hsn])
              by_cases hbig : 16384 < y.size
              · obtain ⟨rfl, rfl⟩ := HMany.out HAll.out HAp.out (.inr (by omega))
                have g6 : decide ((16384 : Int) < (y.size : Int)) = true := decide_eq_true (by omega)
                clear ht hsm hmt hc hx hu hle hmx hnl hrd hcell hsn hle2 hpa hz hmm hq hfit hbig hlen hbld hbo hkd hk1 hwf hy hys
                go_wp2_with (first
                  | (refine wpList_store_row rfl _ _ _ rfl wr.heap.size #[.int .u8 z, .string x, .slice a1 m p1, .string u] rfl rfl 26 zTk (heap_alloc_new _ _) sizeTk rfl (oneTk _ _ _ _) ?_; rw [World.setRow_alloc_new])
                  | (refine wpList_load_row rfl _ _ rfl wr.heap.size rfl 26 #[.int .u8 z, .string x, .slice a1 m p1, .string u] (0, 0) _ (heap_alloc_new _ _) Try.underlying26 rfl sizeTk ?_)
                  | (go_at_call 12; (with_reducible refine (HPUT.out _).mono ?_); rintro e1 w1 ⟨rfl, hbd1, hb1⟩; have HD1 := Lib.hid (hbd1 rfl); have HB1 : Hid (Below w.heap.size w w1) := Lib.hid (HWB.out _ ((HBO3.out _).trans hb1)); clear hb1 hbd1)
                  | (go_at_call 13; (with_reducible refine (bln B B y w1 HD1.out).mono ?_); rintro e2 w2 ⟨rfl, rfl⟩)
                  | fail)
                go_ret2
                exact ⟨rfl, HB1.out⟩
              · have g6 : decide ((16384 : Int) < (y.size : Int)) = false := decide_eq_false (by omega)
                have HYS : Hid (((l.take (k + 1)).flatMap writeT).length ≤ 16384) := Lib.hid (by omega)
                clear ht hsm hmt hc hx hu hle hmx hnl hrd hcell hsn hle2 hpa hz hmm hq hfit hbig hlen hbld hbo hkd hk1 hwf hy hys
                go_wp2_with (first
                  | (refine wpList_store_row rfl _ _ _ rfl wr.heap.size #[.int .u8 z, .string x, .slice a1 m p1, .string u] rfl rfl 26 zTk (heap_alloc_new _ _) sizeTk rfl (oneTk _ _ _ _) ?_; rw [World.setRow_alloc_new])
                  | (refine wpList_load_row rfl _ _ rfl wr.heap.size rfl 26 #[.int .u8 z, .string x, .slice a1 m p1, .string u] (0, 0) _ (heap_alloc_new _ _) Try.underlying26 rfl sizeTk ?_)
                  | (go_at_call 12; (with_reducible refine (HPUT.out _).mono ?_); rintro e1 w1 ⟨rfl, hbd1, hb1⟩; have HD1 := Lib.hid (hbd1 rfl); have HB1 : Hid (Below B wo w1) := Lib.hid ((HBO3.out _).trans hb1); clear hb1 hbd1)
                  | (go_at_call 13; (with_reducible refine (bln B B y w1 HD1.out).mono ?_); rintro e2 w2 ⟨rfl, rfl⟩)
                  | fail)
                go_roundg (gk - 1)
                case rel => exact ⟨k + 1, by omega, by go_num, HYS.out, HY.out ▸ HD1.out, HB1.out⟩
                case measure => omega
          · obtain rfl : n = k := by omega
            rw [List.take_of_length_le (by rw [HN.out]; exact Nat.le_refl _)] at hlen hbld
            obtain ⟨hs1, rfl⟩ := HGood.out HAll.out HAp.out H5.out hlen
            have hs2 : s.data.toList = l.flatMap writeT := by rw [hs1]
            have HBS : Hid (Bld B B s.data.toList wr) := Lib.hid (hs2 ▸ hbld)
            clear hs1 hs2 hbld hlen hbo HBD
            go_wp2_with (first
              | (go_at_call 14; (with_reducible refine (bst B B s wr HBS.out HSW.out).mono ?_); rintro e2 w2 ⟨rfl, _, hb2⟩)
              | fail)
            go_ret2
            exact ⟨rfl, HWB.out _ (HBO2.out.trans hb2)⟩
end Hx
end Go.Proofs.Ytichboamakgabaa
