/-
  Contracts of tidewaiterref05's Points, Same, Of.
-/
import Derived.Test.YtjpebnnifbnjjaaTextT
namespace Go.Proofs.Ytjpebnnifbnjjaa
open Go.RowKit
namespace Hx
open Tx
set_option linter.unusedVariables false

/-- A slice of numbers that came in reads as a list. -/
theorem rdZ_of_row {w : World} {x : Addr} {len cap : Nat} {vs : List Int} (hl : len ≤ cap) (hz : vs.length = cap)
    (hcell : ∀ i, i < vs.length → w.cell? (x.add i) = some (.int .i64 (vs.getD i 0))) (_hwz : ∀ n ∈ vs, (Lit.int .i64 n).wf = true) :
    ∃ l : List Int, RdZ w w.heap.size (some x) l ∧ l.length = len := by
  refine ⟨vs.take len, fun hp => ?_, by simp; omega⟩
  have hp' : 0 < len := by
    simp at hp
    omega
  obtain ⟨b, off, spot⟩ := x
  have hspot : spot = none := by simpa [Addr.add] using World.cell?_spot (hcell 0 (by omega))
  subst hspot
  refine ⟨b, off, rfl, ?_, fun j hj => ?_⟩
  · have := hcell 0 (by omega)
    rw [addr_plain] at this
    exact World.block_lt_of_cell? (a := ⟨b, off + 0, none⟩) w this
  · have hj' : j < len := by
      simp at hj
      omega
    have hjz : j < vs.length := by omega
    have := hcell j hjz
    rw [addr_plain] at this
    rw [this]
    simp [List.getD, hjz, encZ]

theorem chk_ok {s : ByteArray} (h : chkE s = 0) : ∃ ns, pts s.data.toList = some ns ∧ s.size ≤ 16384 := by
  unfold chkE at h
  by_cases h1 : 16384 < s.size
  · rw [if_pos h1] at h; cases h
  · rw [if_neg h1] at h
    cases hp : pts s.data.toList with
    | none => rw [hp] at h; cases h
    | some ns => exact ⟨ns, rfl, by omega⟩
theorem all_ok (s : ByteArray) (ns : List Nat) (w : World) (hm : s.size ≤ 1000000) (h : pts s.data.toList = some ns) :
    Calls Try.prog 25 #[.string s] w fun e w' => Below w.heap.size w w' ∧ ∃ A c, e = .returned (.tuple #[.slice A ns.length c, .bool true]) ∧ (A = none → c = 0) ∧ RdZ w' w'.heap.size A (zs ns) := by
  refine (all_any s w hm).mono fun e w' ⟨hb, hh⟩ => ⟨hb, ?_⟩
  rcases hh with ⟨ms, A, c, e1, e2, e3, e4⟩ | ⟨e1, _⟩
  · rw [h] at e1
    cases e1
    exact ⟨A, c, e2, e3, e4⟩
  · rw [h] at e1
    cases e1
set_option maxHeartbeats 1000000 in
set_option maxRecDepth 100000 in
theorem rpoints_ok (s : ByteArray) (ns : List Nat) (w : World) (hm : s.size ≤ 16384) (h : pts s.data.toList = some ns) :
    Calls Try.prog 15 #[.string s] w fun e w' => Below w.heap.size w w' ∧ ∃ A c, e = .returned (.tuple #[.slice A ns.length c, .int .i64 0]) ∧ (A = none → c = 0) ∧ RdZ w' w'.heap.size A (zs ns) := by
  have hc : chkE s = 0 := by unfold chkE; rw [if_neg (by omega), h]; rfl
  have HM : Hid (s.size ≤ 1000000) := Lib.hid (by omega)
  have HC := Lib.hid hc
  have HP := Lib.hid h
  clear hc h hm
  go_enter Try.func15, Try.ntmps15
  go_wp2_with (first
    | (go_at_call 17; (with_reducible refine (rcheck_any s w HM.out 0 HC.out).mono ?_); rintro e w1 ⟨rfl, hb1⟩)
    | (go_at_call 25; (with_reducible refine (all_ok s ns w1 HM.out HP.out).mono ?_); rintro e w2 ⟨hb2, A, c, rfl, hz, hr⟩; have HR := Lib.hid hr; have HZ := Lib.hid hz; clear hr hz)
    | fail)
  go_ret2
  exact ⟨stp hb1 hb2, A, c, rfl, HZ.out, HR.out⟩
set_option maxHeartbeats 1000000 in
set_option maxRecDepth 100000 in
theorem rpoints_no (s : ByteArray) (q : Int) (w : World) (hm : s.size ≤ 1000000) (h : chkE s = q) (hq : q ≠ 0) :
    Calls Try.prog 15 #[.string s] w fun e w' => e = .returned (.tuple #[.slice none 0 0, .int .i64 q]) ∧ Below w.heap.size w w' := by
  have HM := Lib.hid hm
  have HC := Lib.hid h
  have q0 : (q == 0) = false := by simpa using hq
  have q1 : (q != 0) = true := by simpa using hq
  clear hm h hq
  go_enter Try.func15, Try.ntmps15
  go_wp2_with (first
    | (go_at_call 17; (with_reducible refine (rcheck_any s w HM.out q HC.out).mono ?_); rintro e w1 ⟨rfl, hb1⟩)
    | fail)
  go_ret2
  exact ⟨rfl, hb1⟩
set_option maxHeartbeats 1000000 in
set_option maxRecDepth 100000 in
/-- ref.Same of two slices that read as the same numbers. -/
theorem rsame5_yes (A B : Option Addr) (n c d : Nat) (l : List Int) (w : World) (ha : RdZ w w.heap.size A l) (hb : RdZ w w.heap.size B l) (hn : l.length = n) (hm : n ≤ 1000000) :
    Calls Try.prog 16 #[.slice A n c, .slice B n d] w fun e w' => e = .returned (.bool true) ∧ Below w.heap.size w w' := by
  have HA := Lib.hid ha
  have HB := Lib.hid hb
  have HN := Lib.hid hn
  have HM := Lib.hid hm
  clear ha hb hn hm
  go_enter Try.func16, Try.ntmps16
  go_wp2_with fail
  go_loopw [5] (fun i wr => ∃ k : Nat, k ≤ n ∧ i = .int .i64 k ∧ Below w.heap.size w wr) (fun i _ => n - (intOf i).toNat)
  case atStart => exact ⟨0, Nat.zero_le _, rfl, Below.refl _ _⟩
  case round =>
    obtain ⟨k, hk, rfl, hbw⟩ := hrel
    by_cases hlt : k < n
    · obtain ⟨ga, oa, rfl, hga, hca⟩ := HA.out (by rw [HN.out]; omega)
      obtain ⟨gb, ob, rfl, hgb, hcb⟩ := HB.out (by rw [HN.out]; omega)
      have k1 := (hbw.cell (p := ⟨ga, oa + k, none⟩) hga).trans (hca k (by rw [HN.out]; exact hlt))
      have k2 := (hbw.cell (p := ⟨gb, ob + k, none⟩) hgb).trans (hcb k (by rw [HN.out]; exact hlt))
      obtain ⟨x, hx⟩ : ∃ x, l[k]'(by rw [HN.out]; exact hlt) = x := ⟨_, rfl⟩
      rw [hx] at k1 k2
      have k1' : wr.cell? ⟨ga, oa + k, none⟩ = some (.int .i64 x) := k1
      have k2' : wr.cell? ⟨gb, ob + k, none⟩ = some (.int .i64 x) := k2
      have bk : (0 : Int) ≤ (k : Int) ∧ (k : Int) < (n : Int) := by omega
      have HBW := Lib.hid hbw
      have hMM := HM.out
      clear hca hcb hx k1 k2 hbw
      go_wp2_with fail
      go_quiet (fail)
      go_wp2_with fail
      go_roundw
      case rel => exact ⟨k + 1, hlt, by go_num, below_dn5 HBW.out _⟩
      case measure => simp [intOf]; omega
    · obtain rfl : k = n := by omega
      go_wp2_with fail
      go_ret
      exact ⟨rfl, hbw⟩

theorem infoU8 : (Try.prog.info? 5).map (fun i => (i.zero, i.size, i.bytes)) = some (some (.int .u8 0), 1, 1) := by kernel_rfl
/-- The bytes of numbers that may be. -/
def byL (l : List Int) : List UInt8 := encs (l.map Int.toNat)
theorem byL_length (l : List Int) : (byL l).length ≤ 4 * l.length := by
  unfold byL
  induction l with
  | nil => simp [encs]
  | cons z l ih =>
    rw [List.map_cons, encs_cons, List.length_append]
    have := (enc_length z.toNat).2
    simp only [List.length_cons]
    omega
theorem byL_snoc (l : List Int) (z : Int) : byL (l ++ [z]) = byL l ++ enc z.toNat := by
  unfold byL
  rw [List.map_append, encs_append]
  simp [encs]
/-- The text of numbers, and the error. -/
def ofR (l : List Int) : ByteArray × Int := if l.all may then (if 16384 < (byL l).length then (⟨#[]⟩, 4) else (⟨(byL l).toArray⟩, 0)) else (⟨#[]⟩, 50)
theorem all_take (l : List Int) (k : Nat) (h : k < l.length) (h1 : (l.take k).all may = true) (h2 : may (l[k]'h) = true) : (l.take (k + 1)).all may = true := by
  rw [List.take_succ_eq_append_getElem h, List.all_append, h1]
  simp [h2]
theorem not_all_may (l : List Int) (k : Nat) (h : k < l.length) (h2 : may (l[k]'h) = false) : l.all may = false := by
  rw [List.all_eq_false]
  exact ⟨l[k]'h, List.getElem_mem h, by simp [h2]⟩
set_option maxHeartbeats 4000000 in
set_option maxRecDepth 100000 in
/-- ref.Of. -/
theorem rof5_any (A : Option Addr) (n cp : Nat) (l : List Int) (w : World) (hr : RdZ w w.heap.size A l) (hn : l.length = n) (hm : n ≤ 100000) (t : ByteArray) (q : Int) (hq : ofR l = (t, q)) :
    Calls Try.prog 20 #[.slice A n cp] w fun e w' => e = .returned (.tuple #[.string t, .int .i64 q]) ∧ Below w.heap.size w w' := by
  obtain ⟨i0, hi, hz0, hz1, hz2⟩ := info_parts infoU8
  have HI := Lib.hid hi
  have HZ0 := Lib.hid hz0
  have HZ1 := Lib.hid hz1
  have HZ2 := Lib.hid hz2
  have HR := Lib.hid hr
  have HN := Lib.hid hn
  have HM := Lib.hid hm
  have HQ := Lib.hid hq
  clear hi hz0 hz1 hz2 hr hn hm hq
  go_enter Try.func20, Try.ntmps20
  go_wp2_with fail
  go_loopw [4, 5] (fun v i wr => ∃ k : Nat, k ≤ n ∧ i = .int .i64 k ∧ (l.take k).all may = true ∧ wr.ownsRow w.heap.size 5 1 v (byL (l.take k)).length (Lib.byteCells (byL (l.take k))) ∧ Below w.heap.size w wr) (fun _ i _ => n - (intOf i).toNat)
  case atStart => exact ⟨0, Nat.zero_le _, rfl, rfl, World.ownsRow_nil _ _ _ _, Below.refl _ _⟩
  case round =>
    obtain ⟨k, hk, rfl, hall, hown, hbw⟩ := hrel
    have HO := Lib.hid hown
    have HBW := Lib.hid hbw
    have HALL := Lib.hid hall
    have hsz := hbw.size
    by_cases hlt : k < n
    · obtain ⟨g, o, rfl, hg, hc⟩ := HR.out (by rw [HN.out]; omega)
      have hkl : k < l.length := by rw [HN.out]; exact hlt
      have hcell0 := (hbw.cell (p := ⟨g, o + k, none⟩) hg).trans (hc k hkl)
      obtain ⟨z, hzv⟩ : ∃ z, l[k]'hkl = z := ⟨_, rfl⟩
      rw [hzv] at hcell0
      have hcell : wr.cell? ⟨g, o + k, none⟩ = some (.int .i64 z) := hcell0
      have bk : (0 : Int) ≤ (k : Int) ∧ (k : Int) < (n : Int) := by omega
      have hMM := HM.out
      cases hmz : may z
      · have hres : ofR l = (⟨#[]⟩, 50) := by unfold ofR; rw [not_all_may l k hkl (by rw [hzv]; exact hmz)]; rfl
        have hres2 := HQ.out
        rw [hres] at hres2
        obtain ⟨rfl, rfl⟩ : (⟨#[]⟩ : ByteArray) = t ∧ (50 : Int) = q := by cases hres2; exact ⟨rfl, rfl⟩
        have HMZ := Lib.hid hmz
        clear hmz hzv hres hres2 hcell0 hall hown hbw hc HQ
        go_wp2_with (first
          | (go_at_call 19; (with_reducible refine (rmay_any z false wr HMZ.out).mono ?_); rintro e w1 ⟨rfl, rfl⟩)
          | fail)
        go_ret2
        exact ⟨rfl, HBW.out⟩
      · obtain ⟨m, rfl⟩ : ∃ m : Nat, z = m := ⟨z.toNat, by have := (may_sv hmz).1; omega⟩
        have hm1 := (may_sv hmz).2.1
        have HMZ := Lib.hid hmz
        have HM1 : Hid (m ≤ 1114111) := Lib.hid (by omega)
        obtain ⟨E, hE⟩ : ∃ E, enc m = E := ⟨_, rfl⟩
        obtain ⟨eL, heL⟩ : ∃ eL, E.length = eL := ⟨_, rfl⟩
        have HB : Hid (∀ W : World, Calls Try.prog 27 #[.int .i64 m] W fun e w' => Below W.heap.size W w' ∧ ∃ g c, e = .returned (.slice (some ⟨g, 0, none⟩) eL c) ∧ RdA w' w'.heap.size (some ⟨g, 0, none⟩) E) := by
          intro W
          rw [← heL, ← hE]
          exact (rbytes5_any m W HM1.out).mono fun e w' ⟨h1, g, c, h2, _, h3⟩ => ⟨h1, g, c, h2, h3⟩
        have hnx : byL (l.take (k + 1)) = byL (l.take k) ++ E := by
          rw [List.take_succ_eq_append_getElem hkl, byL_snoc, hzv, ← hE]
          rfl
        have hall2 := all_take l k hkl hall (by rw [hzv]; exact hmz)
        have hbl := byL_length (l.take k)
        rw [List.length_take] at hbl
        obtain ⟨bl, hbl2⟩ : ∃ bl, (byL (l.take k)).length = bl := ⟨_, rfl⟩
        rw [hbl2] at hbl
        have heL4 : eL ≤ 4 := by rw [← heL, ← hE]; exact (enc_length m).2
        have HNX := Lib.hid hnx
        have HALL2 := Lib.hid hall2
        have HEL := Lib.hid heL
        have HBL2 := Lib.hid hbl2
        have HBD : Hid (bl ≤ 400000 ∧ eL ≤ 4) := ⟨by omega, heL4⟩
        have HO1 := HO.out
        rw [hbl2] at HO1
        have HOB := Lib.hid HO1
        clear hmz hzv hcell0 hall hown hbw hc hE heL hnx hall2 hbl hbl2 heL4 HO1
        go_wp2_with (first
          | (go_at_call 19; (with_reducible refine (rmay_any m true wr HMZ.out).mono ?_); rintro e w1 ⟨rfl, rfl⟩)
          | (go_at_call 27; (with_reducible refine (HB.out wr).mono ?_); rintro e w2 ⟨hb2, g2, c2, rfl, hr2⟩; have HR2 := Lib.hid hr2; have HB2 := Lib.hid hb2; have hs2 := hb2.size; have HO2 := Lib.hid (own_below HOB.out hb2 (Nat.le_refl _)); clear hr2)
          | (at_builtin; refine wpList_append_rd rfl (.tmp 18) (.tmp 23) 30 rfl w.heap.size 5 i0 (.int .u8 0) Try.underlying30 HI.out HZ0.out HZ1.out HZ2.out rfl _ bl _ rfl HO2.out w2.heap.size (some ⟨g2, 0, none⟩) eL c2 E rfl HR2.out HEL.out (fun h => by cases h) (by have := HBD.out; omega) (by omega) ?_; intro v4 w4 hown4 hgr4; have HO4 := Lib.hid hown4; have HG4 := Lib.hid hgr4; clear hown4 hgr4)
          | fail)
        have hb4 : Below w.heap.size w w4 := (stp HBW.out HB2.out).grown HG4.out (by omega) (fun g hg => (HO2.out.lt g hg).1)
        go_roundw
        case rel =>
          refine ⟨k + 1, hlt, by go_num, HALL2.out, ?_, hb4⟩
          rw [HNX.out, List.length_append, HBL2.out, HEL.out, Lib.byteCells_append]
          exact HO4.out
        case measure => simp [intOf]; omega
    · obtain rfl : k = n := by omega
      obtain ⟨A', c', rfl⟩ := own_form hown
      have htk : l.take k = l := List.take_of_length_le (by rw [HN.out]; omega)
      rw [htk] at hown hall
      have hrd := (RdA.of_own hown).1
      have hres := HQ.out
      unfold ofR at hres
      rw [hall, if_pos rfl] at hres
      have hbl := byL_length l
      rw [HN.out] at hbl
      obtain ⟨bl, hbl2⟩ : ∃ bl, (byL l).length = bl := ⟨_, rfl⟩
      rw [htk, hbl2]
      rw [hbl2] at hbl hres
      have hMM := HM.out
      by_cases h16 : 16384 < bl
      · rw [if_pos h16] at hres
        obtain ⟨rfl, rfl⟩ : (⟨#[]⟩ : ByteArray) = t ∧ (4 : Int) = q := by cases hres; exact ⟨rfl, rfl⟩
        have d0 : decide ((16384 : Int) < (bl : Int)) = true := by simp; omega
        clear hall hown hbw hrd htk hbl2 hres HQ HO HALL
        go_wp2_with fail
        go_ret2
        exact ⟨rfl, HBW.out⟩
      · rw [if_neg h16] at hres
        obtain ⟨rfl, rfl⟩ : (⟨(byL l).toArray⟩ : ByteArray) = t ∧ (0 : Int) = q := by cases hres; exact ⟨rfl, rfl⟩
        have d0 : decide ((16384 : Int) < (bl : Int)) = false := by simp; omega
        have cv := conv_str (P := Try.prog) (n := bl) (c := c') hrd hbl2 Try.underlying30 Try.underlying5 Try.underlying9
        clear hall hown hbw hrd htk hbl2 hres HQ HO HALL
        go_wp2_with fail
        go_ret2
        exact ⟨rfl, HBW.out⟩
theorem chk_lits (s : ByteArray) : chkE s = 0 ∨ chkE s = 4 ∨ chkE s = 50 := by
  unfold chkE
  split
  · exact .inr (.inl rfl)
  · split
    · exact .inl rfl
    · exact .inr (.inr rfl)
theorem of_lits (l : List Int) : (ofR l).2 = 0 ∨ (ofR l).2 = 4 ∨ (ofR l).2 = 50 := by
  unfold ofR
  split
  · split
    · exact .inr (.inl rfl)
    · exact .inl rfl
  · exact .inr (.inr rfl)
/-- What stands at a place. -/
def nextR (l : List UInt8) : Nat × Nat × Nat := match one l with | none => (0, 0, 50) | some (p, k) => (p, k, 0)
theorem nextR_match (l : List UInt8) (p k q : Nat) (h : nextR l = (p, k, q)) : match one l with | none => p = 0 ∧ k = 0 ∧ q = 50 | some (p', k') => p = p' ∧ k = k' ∧ q = 0 := by
  unfold nextR at h
  cases ho : one l with
  | none => rw [ho] at h; cases h; exact ⟨rfl, rfl, rfl⟩
  | some x => obtain ⟨a, b⟩ := x; rw [ho] at h; cases h; exact ⟨rfl, rfl, rfl⟩
theorem rnext5 (s : ByteArray) (a : Nat) (w : World) (hm : s.size ≤ 1000000) (ha : a < s.size) (p k q : Nat) (h : nextR (s.data.toList.drop a) = (p, k, q)) :
    Calls Try.prog 13 #[.string s, .int .i64 a] w fun e w' => e = .returned (.tuple #[.int .i64 p, .int .i64 k, .int .i64 q]) ∧ Below w.heap.size w w' :=
  rnext5_in s a w hm ha p k q (nextR_match _ _ _ _ h)
theorem nextR_lits {l : List UInt8} {p k q : Nat} (h : nextR l = (p, k, q)) : q = 0 ∨ q = 50 := by
  unfold nextR at h
  split at h
  · cases h; exact .inr rfl
  · cases h; exact .inl rfl
end Hx
end Go.Proofs.Ytjpebnnifbnjjaa
