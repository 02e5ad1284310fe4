/-
  Texts of one seat, put together: TreU, TreT, TreO.
-/
import Derived.Test.YtbjgfaflikgobaaGreatDoorH29
import Derived.Test.YtbjgfaflikgobaaGreatDoorH11
namespace Go.Proofs.YtbjgfaflikgobaaGreatDoor
open Go.RowKit
namespace Hx
open Lx Tr Tx Nmb Es
set_option linter.unusedVariables false
/-- A slice, as an element. -/
def SlS {α : Type} (C : CodS α) : CodS (List α) where
  k := 1
  R w S cs l := ∃ A c, cs = [.slice A l.length c] ∧ l.length ≤ c ∧ c ≤ maxLen ∧ (A = none → c = 0) ∧ RdS C w S A l
  len := by rintro _ _ _ _ ⟨A, c, rfl, _⟩; rfl
  one := by
    rintro _ _ _ _ ⟨A, c, rfl, _⟩ v hv
    simp at hv
    subst hv
    rfl
  keep := fun ⟨A, c, h1, h2, h3, h4, h5⟩ hS hk => ⟨A, c, h1, h2, h3, h4, h5.keep hS hk⟩
theorem sl_at {w : World} {A : Option Addr} {ls : List (List Nd)} {k : Nat} (hr : RdB (SlS NdS) w A ls) (hk : k < ls.length) :
    ∃ (b off : Nat) (A1 : Option Addr) (c1 : Nat), A = some ⟨b, off, none⟩ ∧ b < w.heap.size ∧ w.cell? ⟨b, off + k, none⟩ = some (.slice A1 (ls[k]'hk).length c1) ∧ (ls[k]'hk).length ≤ c1 ∧ c1 ≤ maxLen ∧ (A1 = none → c1 = 0) ∧ RdB NdS w A1 (ls[k]'hk) := by
  obtain ⟨b, off, cs, e, hb, ⟨A1, c1, rfl, h1, h2, h3, h4⟩, hc⟩ := RdS.at hr hk
  have := hc 0 (by simp)
  simp only [SlS, Nat.mul_one, Nat.add_zero] at this
  exact ⟨b, off, A1, c1, e, hb, this, h1, h2, h3, h4⟩
/-- May that stand within an element? -/
def partOk (l : List Nd) : Bool := (match l with | [m] => decide (m.kind = 2) && ndOk m | _ => false) || mayV l
def partE (l : List Nd) : Int := if partOk l = true then 0 else 8
theorem mayV_len {v : List Nd} (h : mayV v = true) : 0 < v.length ∧ v.length ≤ 512 := by
  obtain ⟨h1, ⟨n, l, rfl, _⟩, _⟩ := mayV_iff.1 h
  exact ⟨by simp, h1⟩
theorem partOk_len {l : List Nd} (h : partOk l = true) : 0 < l.length ∧ l.length ≤ 512 := by
  unfold partOk at h
  rw [Bool.or_eq_true] at h
  rcases h with h | h
  · split at h
    · exact ⟨by simp, by simp⟩
    · cases h
  · exact mayV_len h
theorem partOk_not1 {l : List Nd} (h : l.length ≠ 1) : partOk l = mayV l := by
  unfold partOk
  split
  · exact absurd rfl h
  · rfl
theorem partOk_one {l : List Nd} (h : l.length = 1) : partOk l = (decide ((l[0]'(by omega)).kind = 2) && ndOk (l[0]'(by omega)) || mayV l) := by
  match l, h with
  | [m], _ => rfl
theorem mayV_kind {l : List Nd} (h0 : 0 < l.length) (h : (l[0]'h0).kind ≠ 1) : mayV l = false := mayV_no (by
  rintro ⟨_, m, x, rfl, hk⟩
  exact h hk)
set_option maxHeartbeats 8000000 in
set_option maxRecDepth 100000 in
theorem chkpart (A : Option Addr) (n c : Nat) (v : List Nd) (w : World) (hr : RdB NdS w A v) (hn : v.length = n) (hmax : n ≤ 9223372036854775807) (hsm : ∀ m ∈ v, SmallN m) (q : Int) (hq : partE v = q) :
    Calls Tryz.prog 61 #[.slice A n c] w fun e w' => e = .returned (.int .i64 q) ∧ Below w.heap.size w w' := by
  by_cases h1 : n = 1
  · subst h1
    obtain ⟨b0, off, x, y, t, A1, c1, hA, hbB, hin, q0, q1, q2, q3, q4, q5⟩ := nd_at hr (k := 0) (by omega)
    rw [Nat.zero_mul, Nat.add_zero] at q0 q1 q2 q3 q4 q5
    obtain ⟨nd, hnd⟩ : ∃ nd, v[0]'(by omega) = nd := ⟨_, rfl⟩
    have hs := hsm _ (List.getElem_mem (show 0 < v.length by omega))
    have hp1 := partOk_one hn
    rw [hnd] at hin q0 q3 q5 hs hp1
    have f1 : ((1 : Int) == 1) = true := rfl
    by_cases hk : nd.kind = 2
    · cases hh : holdB nd with
      | true =>
        have hok : ndOk nd = true := by unfold holdB at hh; simp at hh; exact hh.1
        obtain rfl : q = 0 := by rw [← hq]; unfold partE; rw [hp1, decide_eq_true hk, hok]; rfl
        have HC := Lib.hid (hold10 nd x y t A1 c1 w hin hs true hh)
        unfold NdV at HC
        rw [hk, show ((2 : Nat) : Int) = 2 from rfl] at HC q0
        subst hA
        clear hr hn hsm hin hs hh hok hq hp1 hnd hk hmax
        go_enter Tryz.func61, Tryz.ntmps61
        go_wp2_with (first
          | (go_at_call 86; (with_reducible refine (HC.out).mono ?_); rintro e1 w1 ⟨rfl, hb1⟩)
          | fail)
        go_ret
        exact ⟨rfl, hb1⟩
      | false =>
        have hmv := mayV_kind (l := v) (by omega) (by rw [hnd, hk]; decide)
        have hok : ndOk nd = false := by
          cases ho : ndOk nd with
          | false => rfl
          | true =>
            have := (ndOk_two ho hk).1
            unfold holdB at hh
            rw [ho, decide_eq_true (by omega : 0 ≤ nd.many)] at hh
            cases hh
        obtain rfl : q = 8 := by rw [← hq]; unfold partE; rw [hp1, hok, hmv, Bool.and_false]; rfl
        have HC := Lib.hid (hold10 nd x y t A1 c1 w hin hs false hh)
        have HV : Hid (∀ W, Below w.heap.size w W → Calls Tryz.prog 20 #[.slice A 1 c] W fun e w' => e = .returned (.int .i64 8) ∧ Below W.heap.size W w') := Lib.hid fun W hW => checkv A 1 c v W (hr.on hW) hn hmax (fun _ => hsm) 8 (by unfold checkV; rw [hmv]; rfl)
        unfold NdV at HC
        rw [hk, show ((2 : Nat) : Int) = 2 from rfl] at HC q0
        subst hA
        clear hr hn hsm hin hs hh hok hq hp1 hnd hk hmv hmax
        go_enter Tryz.func61, Tryz.ntmps61
        go_wp2_with (first
          | (go_at_call 86; (with_reducible refine (HC.out).mono ?_); rintro e1 w1 ⟨rfl, hb1⟩; have HB1 := Lib.hid hb1; clear hb1)
          | (go_at_call 20; (with_reducible refine (HV.out _ HB1.out).mono ?_); rintro e2 w2 ⟨rfl, hb2⟩)
          | fail)
        go_ret
        exact ⟨rfl, stp HB1.out hb2⟩
    · obtain ⟨kd, hkd⟩ : ∃ kd, nd.kind = kd := ⟨_, rfl⟩
      have f2 : ((kd : Int) == 2) = false := by simp; omega
      have HV := Lib.hid (checkv A 1 c v w hr hn hmax (fun _ => hsm) q (by rw [← hq]; unfold partE checkV; rw [hp1, decide_eq_false hk]; rfl))
      rw [hkd] at q0
      subst hA
      clear hr hn hsm hin hs hq hp1 hnd hk hkd hmax
      go_enter Tryz.func61, Tryz.ntmps61
      go_wp2_with (first
        | (go_at_call 20; (with_reducible refine (HV.out).mono ?_); rintro e2 w2 ⟨rfl, hb2⟩)
        | fail)
      go_ret
      exact ⟨rfl, hb2⟩
  · have f1 : ((n : Int) == 1) = false := by simp; omega
    have HV := Lib.hid (checkv A n c v w hr hn hmax (fun _ => hsm) q (by rw [← hq]; unfold partE checkV; rw [partOk_not1 (by omega)]))
    clear hr hn hsm hq hmax h1
    go_enter Tryz.func61, Tryz.ntmps61
    go_wp2_with (first
      | (go_at_call 20; (with_reducible refine (HV.out).mono ?_); rintro e2 w2 ⟨rfl, hb2⟩)
      | fail)
    go_ret
    exact ⟨rfl, hb2⟩
/-- The first error of parts. -/
def partsE (ls : List (List Nd)) : Int := if ls.all partOk = true then 0 else 8
theorem all_no {ls : List (List Nd)} {k : Nat} (hk : k < ls.length) (h : partOk (ls[k]'hk) = false) : ls.all partOk = false := by
  rw [List.all_eq_false]
  exact ⟨_, List.getElem_mem hk, by rw [h]; decide⟩
set_option maxHeartbeats 8000000 in
set_option maxRecDepth 100000 in
theorem each_parts (A : Option Addr) (n c : Nat) (ls : List (List Nd)) (w : World) (hr : RdB (SlS NdS) w A ls) (hn : ls.length = n) (hmax : n ≤ 100000) (hsm : ∀ v ∈ ls, v.length ≤ 100000 ∧ ∀ m ∈ v, SmallN m) (q : Int) (hq : partsE ls = q) :
    Calls Tryz.prog 60 #[.slice A n c, .func (.func 61) #[] #[]] w fun e w' => e = .returned (.int .i64 q) ∧ Below w.heap.size w w' := by
  have HR := Lib.hid hr
  have HN := Lib.hid hn
  have HM := Lib.hid hmax
  have HSM := Lib.hid hsm
  have HQ := Lib.hid hq
  clear hr hn hmax hsm hq
  go_enter Tryz.func60, Tryz.ntmps60
  go_wp2_with fail
  go_loopg [10] n (fun gg i wr => ∃ k : Nat, k + gg = n ∧ i = .int .i64 k ∧ (ls.take k).all partOk = true ∧ Below w.heap.size w wr)
  case atStart => exact ⟨0, by omega, rfl, rfl, Below.refl _ _⟩
  case round =>
    obtain ⟨k, hk, rfl, hall, hbw⟩ := hrel
    have HBW := Lib.hid hbw
    have HALL := Lib.hid hall
    have hm := HM.out
    by_cases hlt : k < n
    · have hk1 : k < ls.length := by rw [HN.out]; exact hlt
      obtain ⟨b0, off, A1, c1, hA, hbB, hc, -, -, -, hrd⟩ := sl_at (HR.out.on hbw) hk1
      obtain ⟨v, hv⟩ : ∃ v, ls[k]'hk1 = v := ⟨_, rfl⟩
      have hsv := HSM.out _ (List.getElem_mem hk1)
      rw [hv] at hc hrd hsv
      have bk : (0 : Int) ≤ (k : Int) ∧ (k : Int) < (n : Int) := by omega
      obtain ⟨m, hmv⟩ : ∃ m, v.length = m := ⟨_, rfl⟩
      rw [hmv] at hc
      subst hA
      cases hp : partOk v with
      | true =>
        have HC := Lib.hid (chkpart A1 m c1 v wr hrd hmv (by omega) hsv.2 0 (by unfold partE; rw [hp]; rfl))
        have HA2 : Hid ((ls.take (k + 1)).all partOk = true) := Lib.hid (by rw [List.take_succ_eq_append_getElem hk1, List.all_append, hall, hv]; simp [hp])
        clear hbw hall hrd hsv hv hk1 hp hmv
        go_wp2_with (first
          | (go_at_call 61; (with_reducible refine (HC.out).mono ?_); rintro e1 w1 ⟨rfl, hb1⟩; have HB1 := Lib.hid hb1; clear hb1)
          | fail)
        go_roundg (gk - 1)
        case rel => exact ⟨k + 1, by omega, by go_num, HA2.out, stp HBW.out HB1.out⟩
        case measure => omega
      | false =>
        have HC := Lib.hid (chkpart A1 m c1 v wr hrd hmv (by omega) hsv.2 8 (by unfold partE; rw [hp]; rfl))
        obtain rfl : q = 8 := by rw [← HQ.out]; unfold partsE; rw [all_no hk1 (by rw [hv]; exact hp)]; rfl
        clear hbw hall hrd hsv hv hk1 hp hmv
        go_wp2_with (first
          | (go_at_call 61; (with_reducible refine (HC.out).mono ?_); rintro e1 w1 ⟨rfl, hb1⟩; have HB1 := Lib.hid hb1; clear hb1)
          | fail)
        go_ret
        exact ⟨rfl, stp HBW.out HB1.out⟩
    · obtain rfl : k = n := by omega
      obtain rfl : q = 0 := by
        rw [← HQ.out]
        unfold partsE
        rw [← HN.out, List.take_length] at hall
        rw [if_pos hall]
      clear hall hbw
      go_wp2_with fail
      go_ret
      exact ⟨rfl, HBW.out⟩
end Hx
end Go.Proofs.YtbjgfaflikgobaaGreatDoor
namespace Go.Proofs.YtbjgfaflikgobaaGreatDoor
open Go.RowKit
namespace Hx
open Lx Tr Tx Nmb Es
set_option linter.unusedVariables false
theorem infoNdS : (Tryz.prog.info? 36).map (·.size) = some 6 := by kernel_rfl
theorem nd_ones (k : Int) (x y z : ByteArray) (A : Option Addr) (n c : Nat) (m : Int) : ∀ v ∈ [Value.int .u8 k, .string x, .string y, .slice A n c, .string z, .int .i64 m], v.oneCell' = true := by simp [Value.oneCell']
/-- A node put behind those so far: its attributes lie in a row of their own. -/
theorem twin_fin {lo : Nat} {w wr w2 w5 : World} {L : List NB} {v v5 : Value} {n : Nd} {x y z : ByteArray} {A3 : Option Addr} {c3 : Nat} (h : NdSt lo w L v wr) (hb : Below wr.heap.size wr w2) (hlo : lo ≤ w.heap.size)
    (hx : x.data.toList = n.space) (hy : y.data.toList = n.name) (hz : z.data.toList = n.text) (hkd : n.kind < 256) (hlo2 : -9223372036854775808 ≤ n.many) (hhi : n.many ≤ 9223372036854775807)
    (ho3 : w2.ownsRow (wr.heap.size + 1) 52 3 (.slice A3 n.attrs.length c3) n.attrs.length ((n.attrs.map abOf).flatMap abCells))
    (hown : w5.ownsRow w.heap.size 36 6 v5 (L.length + 1) (L.flatMap nbCells ++ [.int .u8 (n.kind : Int), .string x, .string y, .slice A3 n.attrs.length c3, .string z, .int .i64 n.many]))
    (hgr : w2.grownBy w5 v.ownBlock) (hlie : v5.ownBlock = v.ownBlock ∨ v5.ownBlock = some w2.heap.size) : NdSt lo w (L ++ [⟨n, x, y, z, A3, c3⟩]) v5 w5 := by
  have hw := h.2.2.size
  obtain ⟨r1, r2, r3, r4, r5⟩ := ats_own (lo := lo) (w0 := w) (row := v.ownBlock) ho3 (by omega) (fun k hk => by have := (h.1.lt k hk).2; omega)
  refine h.more hb (M := [⟨n, x, y, z, A3, c3⟩]) (fun b hm => ?_) ?_ hgr hlie
  · rw [List.mem_singleton] at hm
    subst hm
    exact ⟨hx, hy, hz, r1, r3, r4, r5, hkd, hlo2, hhi⟩
  · simpa [nbCells, ndCells] using hown
def TwinTo (v : List Nd) (w : World) (e : Ending) (w' : World) : Prop := ∃ A c, e = .returned (.slice A v.length c) ∧ NdOut w.heap.size w v A c w' ∧ Below w.heap.size w w'
end Hx
end Go.Proofs.YtbjgfaflikgobaaGreatDoor
namespace Go.Proofs.YtbjgfaflikgobaaGreatDoor
open Go.RowKit
namespace Hx
open Lx Tr Tx Nmb Es
set_option linter.unusedVariables false
def withM (n : Nd) (m : Int) : Nd := { n with many := m }
/-- What Put answers. -/
def putN (n : Nd) (ls : List (List Nd)) : List Nd × Int :=
  if mayV [withM n 0] = true then (if ls.all partOk = true then (if 512 < 1 + ls.flatten.length then ([], 4) else if mayV (withM n ls.length :: ls.flatten) = true then (withM n ls.length :: ls.flatten, 0) else ([], 8)) else ([], 8)) else ([], 8)
theorem NdIn.many {n : Nd} {x y z : ByteArray} {A : Option Addr} {c : Nat} {w : World} {S : Nat → Prop} (h : NdIn n x y z A c w S) (m : Int) (h1 : -9223372036854775808 ≤ m) (h2 : m ≤ 9223372036854775807) : NdIn (withM n m) x y z A c w S :=
  ⟨h.space, h.name, h.text, h.attrs, h.le, h.cm, h.nil, h.kd, h1, h2⟩
theorem SmallN.many {n : Nd} (h : SmallN n) (m : Int) : SmallN (withM n m) := ⟨h.space, h.name, h.text, h.attrs, h.each⟩
theorem one_row {w : World} {n : Nd} {x y z : ByteArray} {A : Option Addr} {c : Nat} (h : NdIn n x y z A c w (fun k => k < w.heap.size)) :
    RdB NdS (w.alloc (.cells #[.int .u8 (n.kind : Int), .string x, .string y, .slice A n.attrs.length c, .string z, .int .i64 n.many] 36)) (some ⟨w.heap.size, 0, none⟩) [n] := by
  have hb : Below w.heap.size w (w.alloc (.cells #[.int .u8 (n.kind : Int), .string x, .string y, .slice A n.attrs.length c, .string z, .int .i64 n.many] 36)) := stpA (Below.refl _ _) _
  intro _
  refine ⟨w.heap.size, 0, rfl, by simp, fun j hj => ?_⟩
  have hj0 : j = 0 := by simp at hj; omega
  subst hj0
  refine ⟨ndCells n x y z A c, ⟨x, y, z, A, c, rfl, NdAt.on h hb⟩, fun i hi => ?_⟩
  have e := cellV _ w.heap.size i _ _ _ (heap_alloc_new w (.cells #[.int .u8 (n.kind : Int), .string x, .string y, .slice A n.attrs.length c, .string z, .int .i64 n.many] 36))
  rw [show 0 + 0 * NdS.k + i = i by simp, e]
  have hi6 : i < 6 := hi
  match i, hi6 with
  | 0, _ => rfl
  | 1, _ => rfl
  | 2, _ => rfl
  | 3, _ => rfl
  | 4, _ => rfl
  | 5, _ => rfl
theorem NdOut.weak {w W w' : World} {v : List Nd} {A : Option Addr} {c : Nat} (h : NdOut W.heap.size W v A c w') (hs : w.heap.size ≤ W.heap.size) : NdOut w.heap.size w v A c w' :=
  ⟨h.rd.mono fun k hk => ⟨Nat.le_trans hs hk.1, hk.2.1, hk.2.2.1, fun _ => hk.2.2.2 hk.1⟩, h.le, h.cm, h.nil⟩
def PutsTo (n : Nd) (ls : List (List Nd)) (w : World) (e : Ending) (w' : World) : Prop := ∃ (out : List Nd) (er : Int) (A : Option Addr) (c : Nat), putN n ls = (out, er) ∧ e = .returned (.tuple #[.slice A out.length c, .int .i64 er]) ∧ NdOut w.heap.size w out A c w' ∧ Below w.heap.size w w'
theorem PutsTo.bad {n : Nd} {ls : List (List Nd)} {w w' : World} {er : Int} (h : putN n ls = ([], er)) (hb : Below w.heap.size w w') : PutsTo n ls w (.returned (.tuple #[.slice none 0 0, .int .i64 er])) w' :=
  ⟨[], er, none, 0, h, rfl, NdOut.none _ _ _, hb⟩
/-- The first row of Put. -/
theorem NdSt.one {lo : Nat} {w W : World} {n : Nd} {x y z : ByteArray} {A : Option Addr} {c : Nat} (hb : Below w.heap.size w W) (h : NdIn n x y z A c W (Far lo w W none)) (hA : ∀ k, W.heap.size ≤ k → ¬ Far lo w W none k) :
    NdSt lo w [⟨n, x, y, z, A, c⟩] (.slice (some ⟨W.heap.size, 0, none⟩) 1 1) (W.alloc (.cells #[.int .u8 (n.kind : Int), .string x, .string y, .slice A n.attrs.length c, .string z, .int .i64 n.many] 36)) := by
  have hb2 : Below W.heap.size W (W.alloc (.cells #[.int .u8 (n.kind : Int), .string x, .string y, .slice A n.attrs.length c, .string z, .int .i64 n.many] 36)) := stpA (Below.refl _ _) _
  refine ⟨⟨by simp [nbCells, ndCells], .inr ⟨W.heap.size, 1, #[.int .u8 (n.kind : Int), .string x, .string y, .slice A n.attrs.length c, .string z, .int .i64 n.many], rfl, hb.size, heap_alloc_new _ _, Nat.le_refl _, by decide, by simp, by simp [nbCells, ndCells]⟩⟩, fun b hm => ?_, stp hb hb2⟩
  rw [List.mem_singleton] at hm
  subst hm
  refine h.keep (fun k hk => ⟨hk.1, Nat.lt_of_lt_of_le hk.2.1 hb2.size, fun e => ?_, fun hk2 o => (hb2.frozen (p := ⟨k, o, none⟩) hk.2.1).trans (hk.2.2.2 hk2 o)⟩) fun k o hk => hb2.cell (p := ⟨k, o, none⟩) hk.2.1
  have e2 : some k = some W.heap.size := e
  injection e2 with e2
  have := hk.2.1
  omega
/-- A part put behind the nodes so far. -/
theorem part_fin {lo : Nat} {w wr w5 : World} {L M : List NB} {v v5 : Value} {l : List Nd} (h : NdSt lo w L v wr) (hlo : lo = 0) (hl : M.map NB.n = l) (hM : ∀ b ∈ M, NdIn b.n b.x b.y b.z b.A b.c wr (fun k => k < w.heap.size))
    (hown : w5.ownsRow w.heap.size 36 6 v5 (L.length + l.length) (L.flatMap nbCells ++ M.flatMap nbCells)) (hgr : wr.grownBy w5 v.ownBlock) (hlie : v5.ownBlock = v.ownBlock ∨ v5.ownBlock = some wr.heap.size) : NdSt lo w (L ++ M) v5 w5 := by
  subst hlo
  have hlen : M.length = l.length := by rw [← hl, List.length_map]
  refine h.more (Below.refl _ _) (fun b hb => (hM b hb).keep (fun k hk => ⟨Nat.zero_le _, Nat.lt_of_lt_of_le hk h.2.2.size, fun e => ?_, fun hk2 => by omega⟩) fun _ _ _ => rfl) (by rw [hlen]; exact hown) hgr hlie
  have := (h.1.lt k e.symm).1
  omega
theorem put_first {n : Nd} {x y z : ByteArray} {A : Option Addr} {c m : Nat} {w w2 : World} (h : NdIn (withM n (m : Int)) x y z A c w (fun k => k < w.heap.size)) (hb : Below w.heap.size w (w2.setCell ⟨w.heap.size, 5, none⟩ (.int .i64 (m : Int)))) :
    NdSt 0 w [⟨withM n (m : Int), x, y, z, A, c⟩] (.slice (some ⟨w2.heap.size, 0, none⟩) 1 1) ((w2.setCell ⟨w.heap.size, 5, none⟩ (.int .i64 (m : Int))).alloc (.cells #[.int .u8 (n.kind : Int), .string x, .string y, .slice A n.attrs.length c, .string z, .int .i64 (m : Int)] 36)) := by
  have := NdSt.one (lo := 0) hb (n := withM n (m : Int)) (x := x) (y := y) (z := z) (A := A) (c := c) (h.keep (fun k hk => ⟨Nat.zero_le _, Nat.lt_of_lt_of_le hk hb.size, by simp, fun hk2 => by omega⟩) fun b o hlt => hb.cell (p := ⟨b, o, none⟩) hlt) (fun k hk hf => by have := hf.2.1; omega)
  rw [World.size_setCell] at this
  exact this
end Hx
end Go.Proofs.YtbjgfaflikgobaaGreatDoor
