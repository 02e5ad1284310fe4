/-
  The tokens of two texts, one behind the other, are both texts', where not both have words at the cut; blanks within a tag, and which quotes there are, count for nothing.
-/
import Derived.Test.YtichboamakgabaaGreatDoorLexPt
import Derived.Test.YtichboamakgabaaGreatDoorCards
import Derived.Test.YtichboamakgabaaGreatDoorTie
import Derived.LaidMore
import Derived.LaidSub
import Derived.MakeChecks
import Derived.Stop.Joined
import Derived.Lib.LaidTab
import Derived.SevenTiedAt
import Derived.Lay
import Derived.Stop.LaidErr
import Derived.Deep.CutBlock
import Derived.Deep.DeepCutAuto
import Derived.Deep.LoopGhost
import Derived.WalkKit
import Derived.ProofKit
import Derived.OpenShut
import Derived.ShutString
import Derived.ChangeOld
import Derived.Below
namespace Go.Proofs.YtichboamakgabaaGreatDoor.lexParts
open Go.ChangeShapes Go.WideShapes Go.ChangeAt Go.RowKit
open Go.ChangeMaps (open_string shut_string)
open Hx Lx Tx Nmb Es
set_option linter.unusedVariables false

theorem own : ownKnob Tryz.prog.godebug = none := by kernel_rfl
theorem laidOut : laidOutB Tryz.prog = true := by kernel_rfl

set_option maxHeartbeats 1000000 in
set_option maxRecDepth 100000 in
theorem walkOut (a b x : ByteArray) (A : Option Addr) (n cp : Nat) (l : List UInt8) (w : World) (h : 1000 < a.size ∨ (a.size ≤ 1000 ∧ 1000 < b.size) ∨ (a.size ≤ 1000 ∧ b.size ≤ 1000 ∧ 100 < x.size) ∨ (a.size ≤ 1000 ∧ b.size ≤ 1000 ∧ x.size ≤ 100 ∧ 100 < n)) (hE : Ev9 w := by first | assumption | exact Ev9.to (by assumption) (by assumption)) :
    Calls Tryz.prog 6 #[.string a, .string b, .string x, .slice A n cp] w fun e w' => e = .returned (.bool true) ∧ Below w.heap.size w w' := by
  rcases h with h | ⟨h, h2⟩ | ⟨h, h2, h3⟩ | ⟨h, h2, h3, h4⟩
  · have d0 : decide ((1000 : Int) < (a.size : Int)) = true := by simp; omega
    have f0 : 1000 < a.size := by omega
    clear h
    go_enter Tryz.func6, Tryz.ntmps6
    go_wp2_with (first
      | (go_at_call 13; (with_reducible refine (alive9 w (hE := hE.to (Below.refl _ _))).mono ?_); rintro e1 w1 ⟨rfl, hb1⟩; have HB1 := Lib.hid hb1; clear hb1)
      | fail)
    go_ret
    exact ⟨rfl, HB1.out⟩
  · have d0 : decide ((1000 : Int) < (a.size : Int)) = false := by simp; omega
    have d1 : decide ((1000 : Int) < (b.size : Int)) = true := by simp; omega
    have f0 : ¬ 1000 < a.size := by omega
    have f1 : 1000 < b.size := by omega
    clear h h2
    go_enter Tryz.func6, Tryz.ntmps6
    go_wp2_with (first
      | (go_at_call 13; (with_reducible refine (alive9 w (hE := hE.to (Below.refl _ _))).mono ?_); rintro e1 w1 ⟨rfl, hb1⟩; have HB1 := Lib.hid hb1; clear hb1)
      | fail)
    go_ret
    exact ⟨rfl, HB1.out⟩
  · have d0 : decide ((1000 : Int) < (a.size : Int)) = false := by simp; omega
    have d1 : decide ((1000 : Int) < (b.size : Int)) = false := by simp; omega
    have d2 : decide ((100 : Int) < (x.size : Int)) = true := by simp; omega
    have f0 : ¬ 1000 < a.size := by omega
    have f1 : ¬ 1000 < b.size := by omega
    have f2 : 100 < x.size := by omega
    clear h h2 h3
    go_enter Tryz.func6, Tryz.ntmps6
    go_wp2_with (first
      | (go_at_call 13; (with_reducible refine (alive9 w (hE := hE.to (Below.refl _ _))).mono ?_); rintro e1 w1 ⟨rfl, hb1⟩; have HB1 := Lib.hid hb1; clear hb1)
      | fail)
    go_ret
    exact ⟨rfl, HB1.out⟩
  · have d0 : decide ((1000 : Int) < (a.size : Int)) = false := by simp; omega
    have d1 : decide ((1000 : Int) < (b.size : Int)) = false := by simp; omega
    have d2 : decide ((100 : Int) < (x.size : Int)) = false := by simp; omega
    have d3 : decide ((100 : Int) < (n : Int)) = true := by simp; omega
    have f0 : ¬ 1000 < a.size := by omega
    have f1 : ¬ 1000 < b.size := by omega
    have f2 : ¬ 100 < x.size := by omega
    have f3 : 100 < n := by omega
    clear h h2 h3 h4
    go_enter Tryz.func6, Tryz.ntmps6
    go_wp2_with (first
      | (go_at_call 13; (with_reducible refine (alive9 w (hE := hE.to (Below.refl _ _))).mono ?_); rintro e1 w1 ⟨rfl, hb1⟩; have HB1 := Lib.hid hb1; clear hb1)
      | fail)
    go_ret
    exact ⟨rfl, HB1.out⟩
set_option maxHeartbeats 16000000 in
set_option maxRecDepth 100000 in
theorem walkIn (a b x : ByteArray) (A : Option Addr) (n cp : Nat) (l : List UInt8) (w : World) (ha : a.size ≤ 1000) (hb : b.size ≤ 1000) (hx : x.size ≤ 100) (hn1 : n ≤ 100) (hr : RdA w w.heap.size A l) (hn : l.length = n)
    (xs ys : List Tk) (na nb ea eb : Int) (hla : lexR a.data.toList = (xs, na, ea)) (hlb : lexR b.data.toList = (ys, nb, eb)) (hE : Ev9 w := by first | assumption | exact Ev9.to (by assumption) (by assumption)) :
    Calls Tryz.prog 6 #[.string a, .string b, .string x, .slice A n cp] w fun e w' => e = .returned (.bool true) ∧ Below w.heap.size w w' := by
  have d0 : decide ((1000 : Int) < (a.size : Int)) = false := by simp; omega
  have d1 : decide ((1000 : Int) < (b.size : Int)) = false := by simp; omega
  have d2 : decide ((100 : Int) < (x.size : Int)) = false := by simp; omega
  have d3 : decide ((100 : Int) < (n : Int)) = false := by simp; omega
  obtain ⟨i0, hi, hz0, hz1, hz2⟩ := info_parts infoTk
  have HI := Lib.hid hi
  have HZ0 := Lib.hid hz0
  have HZ1 := Lib.hid hz1
  have HZ2 := Lib.hid hz2
  obtain ⟨nx, hnx⟩ : ∃ nx, xs.length = nx := ⟨_, rfl⟩
  obtain ⟨ny, hny⟩ : ∃ ny, ys.length = ny := ⟨_, rfl⟩
  have HNX := Lib.hid hnx
  have HNY := Lib.hid hny
  have HX5 : Hid (nx ≤ 512) := Lib.hid (by rw [← hnx]; exact (lexR_small hla).1)
  have HY5 : Hid (ny ≤ 512) := Lib.hid (by rw [← hny]; exact (lexR_small hlb).1)
  have HLA : Hid (∀ W, Below w.heap.size w W → Calls Tryz.prog 9 #[.string a] W fun e w' => ∃ A c, e = .returned (.tuple #[.slice A nx c, .int .i64 na, .int .i64 ea]) ∧ TkIn xs A c w' ∧ Below W.heap.size W w') := Lib.hid fun W hW9 => hnx ▸ lex9 a W (by omega) xs na ea hla (hE := hE.to hW9)
  have HLB : Hid (∀ W, Below w.heap.size w W → Calls Tryz.prog 9 #[.string b] W fun e w' => ∃ A c, e = .returned (.tuple #[.slice A ny c, .int .i64 nb, .int .i64 eb]) ∧ TkIn ys A c w' ∧ Below W.heap.size W w') := Lib.hid fun W hW9 => hny ▸ lex9 b W (by omega) ys nb eb hlb (hE := hE.to hW9)
  have HA := Lib.hid hla
  have HB := Lib.hid hlb
  have HSA := Lib.hid ha
  have HSB := Lib.hid hb
  have HSX := Lib.hid hx
  have HSN := Lib.hid hn1
  have HR := Lib.hid hr
  have HN := Lib.hid hn
  have HEV := Lib.hid hE
  obtain ⟨fl, hfl⟩ : ∃ fl, fullL x.data.toList = fl := ⟨_, rfl⟩
  have HFL := Lib.hid hfl
  have HXM : Hid (x.size ≤ 1000000) := Lib.hid (by omega)
  clear hla hlb hi hz0 hz1 hz2 hnx hny ha hb hx hn1 hr hn hfl
  go_enter Tryz.func6, Tryz.ntmps6
  go_upto_if 44 with (first
    | (go_at_call 13; (with_reducible refine (alive9 w (hE := hE.to (Below.refl _ _))).mono ?_); rintro e1 w1 ⟨rfl, hb1⟩; have HB1 := Lib.hid hb1; clear hb1)
    | (go_at_call 19; (with_reducible refine (full9 x w1 HXM.out fl HFL.out).mono ?_); rintro e2 w2 ⟨rfl, hb2⟩; have HB2 : Hid (Below w.heap.size w w2) := Lib.hid (bel_in9 HB1.out hb2); clear hb2)
    | fail)
  go_cut [10, 11, 12] (fun s10 s11 s12 wx => Below w.heap.size w wx)
  case first =>
    cases fl with
    | false =>
      go_wp2_with fail
      go_meet
      exact HB2.out
    | true =>
      go_wp2_with fail
      go_loopg [10, 11] n (fun gg vs vi wi => ∃ (j : Nat) (G : ByteArray), j + gg = n ∧ vi = .int .i64 j ∧ vs = .string G ∧ G.size = j ∧ Hid (∀ c ∈ G.data.toList, blk c = true) ∧ Below w2.heap.size w2 wi)
      case atStart => exact ⟨0, ⟨#[]⟩, by omega, rfl, rfl, rfl, Lib.hid (fun c h => by simp at h), Below.refl _ _⟩
      case round =>
        obtain ⟨j, G, hj, rfl, rfl, hGs, HG, hbw⟩ := hrel
        have HBW := Lib.hid hbw
        have hN := HSN.out
        have hX := HSX.out
        by_cases hlt : j < n
        · have hj1 : j < l.length := by rw [HN.out]; exact hlt
          obtain ⟨b0, off, hA, hbB, hc⟩ := HR.out (by omega)
          have c0 := ((bel_in9 HB2.out hbw).cell (p := ⟨b0, off + j, none⟩) hbB).trans (hc j hj1)
          subst hA
          obtain ⟨q, hq⟩ : ∃ q : Nat, (l[j]'hj1).toNat = q := ⟨_, rfl⟩
          rw [hq] at c0
          have bj : (0 : Int) ≤ (j : Int) ∧ (j : Int) < (n : Int) := by omega
          have hr4 : q % 4 = 0 ∨ q % 4 = 1 ∨ q % 4 = 2 ∨ q % 4 = 3 := by omega
          clear hbw hc hq
          rcases hr4 with hr4 | hr4 | hr4 | hr4
          · obtain ⟨G2, lG, sG, kG⟩ := cat9 G ⟨#[32]⟩ j 1 hGs rfl (by omega)
            have HG2 : Hid (∀ c ∈ G2.data.toList, blk c = true) := Lib.hid (fun c hc => by
              rw [lG] at hc
              rcases List.mem_append.1 hc with h | h
              · exact HG.out c h
              · obtain rfl : c = 32 := by simpa using h
                rfl)
            have g1 : (q : Int).tmod 4 = 0 := by rw [Int.tmod_eq_emod_of_nonneg (by omega)]; omega
            have kb : ((⟨#[32, 9, 10, 13]⟩ : ByteArray)[0]'(by decide)).toNat = 32 := rfl
            have kc := conv_byte9 wr 32 32 rfl 5
            clear hr4 lG hGs
            go_wp2_with fail
            go_roundg (gk - 1)
            case rel => exact ⟨j + 1, G2, by omega, by go_num, rfl, sG, HG2, stpA HBW.out _⟩
            case measure => omega
          · obtain ⟨G2, lG, sG, kG⟩ := cat9 G ⟨#[9]⟩ j 1 hGs rfl (by omega)
            have HG2 : Hid (∀ c ∈ G2.data.toList, blk c = true) := Lib.hid (fun c hc => by
              rw [lG] at hc
              rcases List.mem_append.1 hc with h | h
              · exact HG.out c h
              · obtain rfl : c = 9 := by simpa using h
                rfl)
            have g1 : (q : Int).tmod 4 = 1 := by rw [Int.tmod_eq_emod_of_nonneg (by omega)]; omega
            have kb : ((⟨#[32, 9, 10, 13]⟩ : ByteArray)[1]'(by decide)).toNat = 9 := rfl
            have kc := conv_byte9 wr 9 9 rfl 5
            clear hr4 lG hGs
            go_wp2_with fail
            go_roundg (gk - 1)
            case rel => exact ⟨j + 1, G2, by omega, by go_num, rfl, sG, HG2, stpA HBW.out _⟩
            case measure => omega
          · obtain ⟨G2, lG, sG, kG⟩ := cat9 G ⟨#[10]⟩ j 1 hGs rfl (by omega)
            have HG2 : Hid (∀ c ∈ G2.data.toList, blk c = true) := Lib.hid (fun c hc => by
              rw [lG] at hc
              rcases List.mem_append.1 hc with h | h
              · exact HG.out c h
              · obtain rfl : c = 10 := by simpa using h
                rfl)
            have g1 : (q : Int).tmod 4 = 2 := by rw [Int.tmod_eq_emod_of_nonneg (by omega)]; omega
            have kb : ((⟨#[32, 9, 10, 13]⟩ : ByteArray)[2]'(by decide)).toNat = 10 := rfl
            have kc := conv_byte9 wr 10 10 rfl 5
            clear hr4 lG hGs
            go_wp2_with fail
            go_roundg (gk - 1)
            case rel => exact ⟨j + 1, G2, by omega, by go_num, rfl, sG, HG2, stpA HBW.out _⟩
            case measure => omega
          · obtain ⟨G2, lG, sG, kG⟩ := cat9 G ⟨#[13]⟩ j 1 hGs rfl (by omega)
            have HG2 : Hid (∀ c ∈ G2.data.toList, blk c = true) := Lib.hid (fun c hc => by
              rw [lG] at hc
              rcases List.mem_append.1 hc with h | h
              · exact HG.out c h
              · obtain rfl : c = 13 := by simpa using h
                rfl)
            have g1 : (q : Int).tmod 4 = 3 := by rw [Int.tmod_eq_emod_of_nonneg (by omega)]; omega
            have kb : ((⟨#[32, 9, 10, 13]⟩ : ByteArray)[3]'(by decide)).toNat = 13 := rfl
            have kc := conv_byte9 wr 13 13 rfl 5
            clear hr4 lG hGs
            go_wp2_with fail
            go_roundg (gk - 1)
            case rel => exact ⟨j + 1, G2, by omega, by go_num, rfl, sG, HG2, stpA HBW.out _⟩
            case measure => omega
        · obtain hjn : j = n := by omega
          have bjn : ¬ (j : Int) < (n : Int) := by omega
          obtain ⟨p1, lp1, sp1, kp1⟩ := cat9 ⟨#[60]⟩ x 1 x.size rfl rfl (by omega)
          obtain ⟨p2, lp2, sp2, kp2⟩ := cat9 p1 ⟨#[32]⟩ (1 + x.size) 1 sp1 rfl (by omega)
          obtain ⟨p3, lp3, sp3, kp3⟩ := cat9 p2 G ((1 + x.size) + 1) j sp2 hGs (by omega)
          obtain ⟨p4, lp4, sp4, kp4⟩ := cat9 p3 x (((1 + x.size) + 1) + j) x.size sp3 rfl (by omega)
          obtain ⟨p5, lp5, sp5, kp5⟩ := cat9 p4 G ((((1 + x.size) + 1) + j) + x.size) j sp4 hGs (by omega)
          obtain ⟨p6, lp6, sp6, kp6⟩ := cat9 p5 ⟨#[61]⟩ (((((1 + x.size) + 1) + j) + x.size) + j) 1 sp5 rfl (by omega)
          obtain ⟨p7, lp7, sp7, kp7⟩ := cat9 p6 G ((((((1 + x.size) + 1) + j) + x.size) + j) + 1) j sp6 hGs (by omega)
          obtain ⟨p8, lp8, sp8, kp8⟩ := cat9 p7 ⟨#[39, 118, 39]⟩ (((((((1 + x.size) + 1) + j) + x.size) + j) + 1) + j) 3 sp7 rfl (by omega)
          obtain ⟨p9, lp9, sp9, kp9⟩ := cat9 p8 G ((((((((1 + x.size) + 1) + j) + x.size) + j) + 1) + j) + 3) j sp8 hGs (by omega)
          obtain ⟨p10, lp10, sp10, kp10⟩ := cat9 p9 ⟨#[62]⟩ (((((((((1 + x.size) + 1) + j) + x.size) + j) + 1) + j) + 3) + j) 1 sp9 rfl (by omega)
          obtain ⟨q2, lq2, sq2, kq2⟩ := cat9 p1 ⟨#[10]⟩ (1 + x.size) 1 sp1 rfl (by omega)
          obtain ⟨q3, lq3, sq3, kq3⟩ := cat9 q2 x ((1 + x.size) + 1) x.size sq2 rfl (by omega)
          obtain ⟨q4, lq4, sq4, kq4⟩ := cat9 q3 G (((1 + x.size) + 1) + x.size) j sq3 hGs (by omega)
          obtain ⟨q5, lq5, sq5, kq5⟩ := cat9 q4 ⟨#[61, 34, 118, 34]⟩ ((((1 + x.size) + 1) + x.size) + j) 4 sq4 rfl (by omega)
          obtain ⟨q6, lq6, sq6, kq6⟩ := cat9 q5 G (((((1 + x.size) + 1) + x.size) + j) + 4) j sq5 hGs (by omega)
          obtain ⟨q7, lq7, sq7, kq7⟩ := cat9 q6 ⟨#[47, 62]⟩ ((((((1 + x.size) + 1) + x.size) + j) + 4) + j) 2 sq6 rfl (by omega)
          obtain ⟨r1, lr1, sr1, kr1⟩ := cat9 ⟨#[60, 47]⟩ x 2 x.size rfl rfl (by omega)
          obtain ⟨r2, lr2, sr2, kr2⟩ := cat9 r1 G (2 + x.size) j sr1 hGs (by omega)
          obtain ⟨r3, lr3, sr3, kr3⟩ := cat9 r2 ⟨#[62]⟩ ((2 + x.size) + j) 1 sr2 rfl (by omega)
          have hGl : G.data.toList.length ≤ 100 := by rw [ba_l]; omega
          have hxl : x.data.toList.length ≤ 100 := by rw [ba_l]; exact hX
          have EA : p10.data.toList = tagA x.data.toList G.data.toList := by rw [lp10, lp9, lp8, lp7, lp6, lp5, lp4, lp3, lp2, lp1]; simp [tagA]
          have EB : q7.data.toList = tagB x.data.toList G.data.toList := by rw [lq7, lq6, lq5, lq4, lq3, lq2, lp1]; simp [tagB]
          have EC : r3.data.toList = tagC x.data.toList G.data.toList := by rw [lr3, lr2, lr1]; simp [tagC]
          have LA : Hid (lexR p10.data.toList = ([⟨1, x.data.toList, [⟨x.data.toList, [118]⟩], []⟩], 0, 0)) := Lib.hid (by rw [EA]; exact lex_A HFL.out HG.out hxl hGl)
          have LB : Hid (lexR q7.data.toList = ([⟨3, x.data.toList, [⟨x.data.toList, [118]⟩], []⟩], 0, 0)) := Lib.hid (by rw [EB]; exact lex_B HFL.out HG.out hxl hGl)
          have LC : Hid (lexR r3.data.toList = ([⟨2, x.data.toList, [], []⟩], 0, 0)) := Lib.hid (by rw [EC]; exact lex_C HFL.out HG.out hxl hGl)
          have SA : Hid (p10.size ≤ 1000000) := Lib.hid (by omega)
          have SB : Hid (q7.size ≤ 1000000) := Lib.hid (by omega)
          have SC : Hid (r3.size ≤ 1000000) := Lib.hid (by omega)
          have HX1 : Hid ((wr.alloc (.cells #[.string x, .string ⟨#[118]⟩] 35)).heap[wr.heap.size]? = some (.cells #[.string x, .string ⟨#[118]⟩] 35 (0, 0))) := Lib.hid (heap_alloc_new _ _)
          have HBX1 : Hid (Below w.heap.size w (wr.alloc (.cells #[.string x, .string ⟨#[118]⟩] 35))) := Lib.hid (bel_in9 (bel_in9 HB2.out HBW.out) ((Below.refl _ _).alloc (Nat.le_refl _) _))
          have HAL : Hid (∀ (W : World) (o : Obj), Below W.heap.size W (W.alloc o)) := Lib.hid fun W o => (Below.refl _ _).alloc (Nat.le_refl _) o
          clear EA EB EC hGl hxl lp1 sp1 lp2 sp2 lp3 sp3 lp4 sp4 lp5 sp5 lp6 sp6 lp7 sp7 lp8 sp8 lp9 sp9 lp10 sp10 lq2 sq2 lq3 sq3 lq4 sq4 lq5 sq5 lq6 sq6 lq7 sq7 lr1 sr1 lr2 sr2 lr3 sr3 hbw hGs
          go_wp2_with (first
            | (refine wpList_load_row rfl _ _ rfl wr.heap.size rfl 35 #[.string x, .string ⟨#[118]⟩] (0, 0) _ HX1.out Tryz.underlying35 rfl sizePr ?_)
            | (go_at_call 11; (with_reducible refine (open9 _ _ _ _ _).mono ?_); rintro e3 w3 ⟨rfl, hb3⟩; have HP3 : Hid (RdC PrC w3 w3.heap.size (some ⟨wr.heap.size + 1, 0, none⟩) [⟨x.data.toList, [118]⟩]) := Lib.hid ((par_pairG (wr.alloc (.cells #[.string x, .string ⟨#[118]⟩] 35)) _ x (wr.heap.size + 1) (World.size_alloc ..)).on hb3); have HB3 : Hid (Below w.heap.size w w3) := Lib.hid (bel_in9 (bel_in9 HBX1.out (HAL.out (wr.alloc (.cells #[.string x, .string ⟨#[118]⟩] 35)) _)) hb3); have HX3 := Lib.hid (kept_heap HX1.out (bel_in9 (HAL.out (wr.alloc (.cells #[.string x, .string ⟨#[118]⟩] 35)) _) hb3)); clear hb3)
            | (go_at_call 14; (with_reducible refine (are_yes p10 _ 1 1 _ _ SA.out (par_tokG w3 _ _ 1 1 rfl (by decide) x _ rfl HP3.out (by simp)) rfl LA.out (hE := HEV.out.to (bel_in9 HB3.out (HAL.out w3 _)))).mono ?_); rintro e4 w4 ⟨rfl, hb4⟩; have HB4 : Hid (Below w.heap.size w w4) := Lib.hid (bel_in9 (bel_in9 HB3.out (HAL.out w3 _)) hb4); have HX4 := Lib.hid (kept_heap HX3.out (bel_in9 (HAL.out w3 _) hb4)); clear hb4)
            | (refine wpList_guarded9 rfl ?_; refine wpList_load_row rfl _ _ rfl wr.heap.size rfl 35 #[.string x, .string ⟨#[118]⟩] (0, 0) _ HX4.out Tryz.underlying35 rfl sizePr ?_)
            | (go_at_call 14; (with_reducible refine (are_yes q7 _ 1 1 _ _ SB.out (par_tokG (w4.alloc _) _ _ 3 3 rfl (by decide) x (w4.heap.size + 1) (World.size_alloc ..) (par_pairG w4 _ x w4.heap.size rfl) (by simp)) rfl LB.out (hE := HEV.out.to (bel_in9 (bel_in9 HB4.out (HAL.out w4 _)) (HAL.out _ _)))).mono ?_); rintro e5 w5 ⟨rfl, hb5⟩; have HB5 : Hid (Below w.heap.size w w5) := Lib.hid (bel_in9 (bel_in9 (bel_in9 HB4.out (HAL.out w4 _)) (HAL.out _ _)) hb5); clear hb5)
            | (go_at_call 14; (with_reducible refine (are_yes r3 _ 1 1 _ _ SC.out (par_tok0 w5 _ x) rfl LC.out (hE := HEV.out.to (bel_in9 HB5.out (HAL.out w5 _)))).mono ?_); rintro e6 w6 ⟨rfl, hb6⟩; have HB6 : Hid (Below w.heap.size w w6) := Lib.hid (bel_in9 (bel_in9 HB5.out (HAL.out w5 _)) hb6); clear hb6)
            | fail)
          go_meet
          exact HB6.out
  case rest =>
  have HBC := Lib.hid hcut
  clear hcut
  go_upto_region 15 with (first
    | (go_at_call 9; (with_reducible refine (HLA.out _ HBC.out).mono ?_); rintro e3 w3 ⟨A3, c3, rfl, hi3, hb3⟩; have HB3 : Hid (Below w.heap.size w w3) := Lib.hid (bel_in9 HBC.out hb3); have HI3 := Lib.hid hi3; clear hi3 hb3)
    | (go_at_call 9; (with_reducible refine (HLB.out _ HB3.out).mono ?_); rintro e4 w4 ⟨A4, c4, rfl, hi4, hb4⟩; have HB4 : Hid (Below w.heap.size w w4) := Lib.hid (bel_in9 HB3.out hb4); have HI4 := Lib.hid hi4; have HI34 := Lib.hid (HI3.out.on hb4); clear hi4 hb4)
    | fail)
  by_cases he : ea = 0
  · subst he
    by_cases hf : eb = 0
    · subst hf
      have hx5 := HX5.out
      have hy5 := HY5.out
      have ws : IntKind.i64.wrap ((nx : Int) + (ny : Int)) = (nx : Int) + (ny : Int) := IntWalk.i64_in _ (by omega)
      by_cases hsum : 512 < nx + ny
      · have ds : decide ((512 : Int) < (nx : Int) + (ny : Int)) = true := by simp; omega
        have dsn : (512 : Int) < (nx : Int) + (ny : Int) := by omega
        go_wp2_with fail
        go_ret
        exact ⟨rfl, HB4.out⟩
      · have ds : decide ((512 : Int) < (nx : Int) + (ny : Int)) = false := by simp; omega
        have dsn : ¬ (512 : Int) < (nx : Int) + (ny : Int) := by omega
        obtain ⟨ab, lab, sab, kab⟩ := cat9 a b a.size b.size rfl rfl (by have := HSA.out; have := HSB.out; omega)
        have SAB : Hid (ab.size ≤ 1000000) := Lib.hid (by have := HSA.out; have := HSB.out; omega)
        have HALL : Hid ((∀ (h1 : 0 < xs.length) (h2 : 0 < ys.length), (xs[xs.length - 1]'(by omega)).kind ≠ 4 ∨ (ys[0]'h2).kind ≠ 4) → lexR ab.data.toList = (xs ++ ys, 0, 0)) := Lib.hid fun h => by
          rw [lab]
          exact lex_both HA.out HB.out (by rw [HNX.out, HNY.out]; omega) (by rw [← lab, ba_l, sab]; have := HSA.out; have := HSB.out; omega) (last_first h)
        have HLL : Hid ((xs ++ ys).length = nx + ny) := Lib.hid (by rw [List.length_append, HNX.out, HNY.out])
        have HS512 : Hid (nx + ny ≤ 512) := Lib.hid (by omega)
        clear lab sab hsum
        by_cases hx0 : nx = 0
        · subst hx0
          have HLL := Lib.hid (HLL.out.trans (Nat.zero_add ny))
          have HFIN := Lib.hid (HALL.out (fun h1 _ => absurd h1 (by rw [HNX.out]; omega)))
          go_wp2_with (first
            | (at_builtin; refine wpList_guarded9 rfl ?_; refine wpList_append_tk rfl (.tmp 177) (.tmp 178) 23 rfl w4.heap.size 32 i0 (.agg #[.int .u8 0, .string ⟨#[]⟩, .slice none 0 0, .string ⟨#[]⟩]) Tryz.underlying23 HI.out HZ0.out HZ1.out HZ2.out rfl _ 0 [] rfl (own_none9 w4 32 4) w4.heap.size A3 0 c3 xs rfl (HI34.out.1.below (stpA (Below.refl _ _) _)) HNX.out HI34.out.2.2.2 (by have := HX5.out; omega) (by rw [World.size_alloc]; omega) ?_; intro v5 w5 L1 hm1 hr1 hown5 hgr5; rw [List.nil_append, Nat.zero_add] at hown5; have HO5 := Lib.hid hown5; have HM1 := Lib.hid hm1; have HR1 := Lib.hid hr1; have HG5 : Hid (Below w4.heap.size w4 w5 ∧ Below w4.heap.size (w4.alloc (.cells #[] 32)) w5) := Lib.hid ⟨(stpA (Below.refl w4.heap.size w4) (.cells #[] 32)).grown hgr5 (by rw [World.size_alloc]; omega) (fun g hg => ((own_none9 w4 32 4).lt g hg).1), (Below.refl _ _).grown hgr5 (by rw [World.size_alloc]; omega) (fun g hg => ((own_none9 w4 32 4).lt g hg).1)⟩; clear hown5 hgr5 hm1 hr1)
            | (at_builtin; refine wpList_guarded9 rfl ?_; refine wpList_append_tk rfl (.tmp 179) (.tmp 180) 23 rfl w4.heap.size 32 i0 (.agg #[.int .u8 0, .string ⟨#[]⟩, .slice none 0 0, .string ⟨#[]⟩]) Tryz.underlying23 HI.out HZ0.out HZ1.out HZ2.out rfl _ 0 _ rfl HO5.out w4.heap.size A4 ny c4 ys rfl (HI4.out.1.below HG5.out.1) HNY.out HI4.out.2.2.2 (by have := HS512.out; omega) HG5.out.1.size ?_; intro v6 w6 L2 hm2 hr2 hown6 hgr6; rw [Nat.zero_add] at hown6; obtain ⟨A6, c6, rfl⟩ := own_form2 hown6; have HG6 : Hid (Below w4.heap.size w4 w6) := Lib.hid (HG5.out.1.grown hgr6 HG5.out.1.size (fun g hg => (HO5.out.lt g hg).1)); have HR6 := Lib.hid (two_lists HR1.out hr2 (HG5.out.2.grown hgr6 HG5.out.1.size (fun g hg => (HO5.out.lt g hg).1)) ((Below.refl w4.heap.size w5).grown hgr6 HG5.out.1.size (fun g hg => (HO5.out.lt g hg).1)) HG6.out.size hown6); rw [HM1.out, hm2] at HR6; clear hown6 hgr6 hm2 hr2)
            | (go_at_call 14; (with_reducible refine (are_yes ab A6 _ c6 (xs ++ ys) w6 SAB.out HR6.out HLL.out HFIN.out (hE := HEV.out.to (bel_in9 HB4.out HG6.out))).mono ?_); rintro e7 w7 ⟨rfl, hb7⟩; have HB7 : Hid (Below w.heap.size w w7) := Lib.hid (bel_in9 (bel_in9 HB4.out HG6.out) hb7); clear hb7)
            | fail)
          go_ret
          exact ⟨rfl, HB7.out⟩
        · have dx : decide ((0 : Int) < (nx : Int)) = true := by simp; omega
          have dxn : 0 < nx := by omega
          by_cases hy0 : ny = 0
          · subst hy0
            have HLL := Lib.hid (HLL.out.trans (Nat.add_zero nx))
            have HFIN := Lib.hid (HALL.out (fun _ h2 => absurd h2 (by rw [HNY.out]; omega)))
            go_wp2_with (first
              | (at_builtin; refine wpList_guarded9 rfl ?_; refine wpList_append_tk rfl (.tmp 177) (.tmp 178) 23 rfl w4.heap.size 32 i0 (.agg #[.int .u8 0, .string ⟨#[]⟩, .slice none 0 0, .string ⟨#[]⟩]) Tryz.underlying23 HI.out HZ0.out HZ1.out HZ2.out rfl _ 0 [] rfl (own_none9 w4 32 4) w4.heap.size A3 nx c3 xs rfl (HI34.out.1.below (stpA (Below.refl _ _) _)) HNX.out HI34.out.2.2.2 (by have := HX5.out; omega) (by rw [World.size_alloc]; omega) ?_; intro v5 w5 L1 hm1 hr1 hown5 hgr5; rw [List.nil_append, Nat.zero_add] at hown5; have HO5 := Lib.hid hown5; have HM1 := Lib.hid hm1; have HR1 := Lib.hid hr1; have HG5 : Hid (Below w4.heap.size w4 w5 ∧ Below w4.heap.size (w4.alloc (.cells #[] 32)) w5) := Lib.hid ⟨(stpA (Below.refl w4.heap.size w4) (.cells #[] 32)).grown hgr5 (by rw [World.size_alloc]; omega) (fun g hg => ((own_none9 w4 32 4).lt g hg).1), (Below.refl _ _).grown hgr5 (by rw [World.size_alloc]; omega) (fun g hg => ((own_none9 w4 32 4).lt g hg).1)⟩; clear hown5 hgr5 hm1 hr1)
              | (at_builtin; refine wpList_guarded9 rfl ?_; refine wpList_append_tk rfl (.tmp 179) (.tmp 180) 23 rfl w4.heap.size 32 i0 (.agg #[.int .u8 0, .string ⟨#[]⟩, .slice none 0 0, .string ⟨#[]⟩]) Tryz.underlying23 HI.out HZ0.out HZ1.out HZ2.out rfl _ nx _ rfl HO5.out w4.heap.size A4 0 c4 ys rfl (HI4.out.1.below HG5.out.1) HNY.out HI4.out.2.2.2 (by have := HS512.out; omega) HG5.out.1.size ?_; intro v6 w6 L2 hm2 hr2 hown6 hgr6; rw [Nat.add_zero] at hown6; obtain ⟨A6, c6, rfl⟩ := own_form2 hown6; have HG6 : Hid (Below w4.heap.size w4 w6) := Lib.hid (HG5.out.1.grown hgr6 HG5.out.1.size (fun g hg => (HO5.out.lt g hg).1)); have HR6 := Lib.hid (two_lists HR1.out hr2 (HG5.out.2.grown hgr6 HG5.out.1.size (fun g hg => (HO5.out.lt g hg).1)) ((Below.refl w4.heap.size w5).grown hgr6 HG5.out.1.size (fun g hg => (HO5.out.lt g hg).1)) HG6.out.size hown6); rw [HM1.out, hm2] at HR6; clear hown6 hgr6 hm2 hr2)
              | (go_at_call 14; (with_reducible refine (are_yes ab A6 _ c6 (xs ++ ys) w6 SAB.out HR6.out HLL.out HFIN.out (hE := HEV.out.to (bel_in9 HB4.out HG6.out))).mono ?_); rintro e7 w7 ⟨rfl, hb7⟩; have HB7 : Hid (Below w.heap.size w w7) := Lib.hid (bel_in9 (bel_in9 HB4.out HG6.out) hb7); clear hb7)
              | fail)
            go_ret
            exact ⟨rfl, HB7.out⟩
          · have dy : decide ((0 : Int) < (ny : Int)) = true := by simp; omega
            have dyn : 0 < ny := by omega
            have hx1 : xs.length - 1 < xs.length := by rw [HNX.out]; omega
            have hy1 : 0 < ys.length := by rw [HNY.out]; omega
            obtain ⟨bx, ox, hAx, hbx, cx⟩ := kind_at HI34.out.1 hx1
            obtain ⟨by', oy, hAy, hby, cy⟩ := kind_at HI4.out.1 hy1
            subst hAx hAy
            obtain ⟨kx, hkx⟩ : ∃ kx : Int, ((xs[xs.length - 1]'hx1).kind : Int) = kx := ⟨_, rfl⟩
            obtain ⟨ky, hky⟩ : ∃ ky : Int, ((ys[0]'hy1).kind : Int) = ky := ⟨_, rfl⟩
            obtain ⟨i, hi⟩ : ∃ i : Nat, nx - 1 = i := ⟨_, rfl⟩
            rw [hkx, HNX.out, hi] at cx
            rw [hky, Nat.zero_mul, Nat.add_zero] at cy
            have wk : IntKind.i64.wrap ((nx : Int) - 1) = (i : Int) := by rw [IntWalk.i64_in _ (by omega)]; omega
            have bi : (0 : Int) ≤ (i : Int) ∧ (i : Int) < (nx : Int) := by omega
            have by0 : (0 : Int) < (ny : Int) := by omega
            by_cases hkx4 : kx = 4
            · have qx : (kx == 4) = true := by simpa using hkx4
              by_cases hky4 : ky = 4
              · have qy : (ky == 4) = true := by simpa using hky4
                clear hkx hky hkx4 hky4
                go_wp2_with fail
                go_ret
                exact ⟨rfl, HB4.out⟩
              · have qy : (ky == 4) = false := by simpa using hky4
                have HFIN := Lib.hid (HALL.out (fun _ h2 => .inr (by omega)))
                clear hkx hky hkx4 hky4
                go_wp2_with (first
                  | (at_builtin; refine wpList_guarded9 rfl ?_; refine wpList_append_tk rfl (.tmp 177) (.tmp 178) 23 rfl w4.heap.size 32 i0 (.agg #[.int .u8 0, .string ⟨#[]⟩, .slice none 0 0, .string ⟨#[]⟩]) Tryz.underlying23 HI.out HZ0.out HZ1.out HZ2.out rfl _ 0 [] rfl (own_none9 w4 32 4) w4.heap.size (some ⟨bx, ox, none⟩) nx c3 xs rfl (HI34.out.1.below (stpA (Below.refl _ _) _)) HNX.out HI34.out.2.2.2 (by have := HX5.out; omega) (by rw [World.size_alloc]; omega) ?_; intro v5 w5 L1 hm1 hr1 hown5 hgr5; rw [List.nil_append, Nat.zero_add] at hown5; have HO5 := Lib.hid hown5; have HM1 := Lib.hid hm1; have HR1 := Lib.hid hr1; have HG5 : Hid (Below w4.heap.size w4 w5 ∧ Below w4.heap.size (w4.alloc (.cells #[] 32)) w5) := Lib.hid ⟨(stpA (Below.refl w4.heap.size w4) (.cells #[] 32)).grown hgr5 (by rw [World.size_alloc]; omega) (fun g hg => ((own_none9 w4 32 4).lt g hg).1), (Below.refl _ _).grown hgr5 (by rw [World.size_alloc]; omega) (fun g hg => ((own_none9 w4 32 4).lt g hg).1)⟩; clear hown5 hgr5 hm1 hr1)
                  | (at_builtin; refine wpList_guarded9 rfl ?_; refine wpList_append_tk rfl (.tmp 179) (.tmp 180) 23 rfl w4.heap.size 32 i0 (.agg #[.int .u8 0, .string ⟨#[]⟩, .slice none 0 0, .string ⟨#[]⟩]) Tryz.underlying23 HI.out HZ0.out HZ1.out HZ2.out rfl _ nx _ rfl HO5.out w4.heap.size (some ⟨by', oy, none⟩) ny c4 ys rfl (HI4.out.1.below HG5.out.1) HNY.out HI4.out.2.2.2 (by have := HS512.out; omega) HG5.out.1.size ?_; intro v6 w6 L2 hm2 hr2 hown6 hgr6; obtain ⟨A6, c6, rfl⟩ := own_form2 hown6; have HG6 : Hid (Below w4.heap.size w4 w6) := Lib.hid (HG5.out.1.grown hgr6 HG5.out.1.size (fun g hg => (HO5.out.lt g hg).1)); have HR6 := Lib.hid (two_lists HR1.out hr2 (HG5.out.2.grown hgr6 HG5.out.1.size (fun g hg => (HO5.out.lt g hg).1)) ((Below.refl w4.heap.size w5).grown hgr6 HG5.out.1.size (fun g hg => (HO5.out.lt g hg).1)) HG6.out.size hown6); rw [HM1.out, hm2] at HR6; clear hown6 hgr6 hm2 hr2)
                  | (go_at_call 14; (with_reducible refine (are_yes ab A6 _ c6 (xs ++ ys) w6 SAB.out HR6.out HLL.out HFIN.out (hE := HEV.out.to (bel_in9 HB4.out HG6.out))).mono ?_); rintro e7 w7 ⟨rfl, hb7⟩; have HB7 : Hid (Below w.heap.size w w7) := Lib.hid (bel_in9 (bel_in9 HB4.out HG6.out) hb7); clear hb7)
                  | fail)
                go_ret
                exact ⟨rfl, HB7.out⟩
            · have qx : (kx == 4) = false := by simpa using hkx4
              have HFIN := Lib.hid (HALL.out (fun _ h2 => .inl (by omega)))
              clear hkx hky hkx4
              go_wp2_with (first
                | (at_builtin; refine wpList_guarded9 rfl ?_; refine wpList_append_tk rfl (.tmp 177) (.tmp 178) 23 rfl w4.heap.size 32 i0 (.agg #[.int .u8 0, .string ⟨#[]⟩, .slice none 0 0, .string ⟨#[]⟩]) Tryz.underlying23 HI.out HZ0.out HZ1.out HZ2.out rfl _ 0 [] rfl (own_none9 w4 32 4) w4.heap.size (some ⟨bx, ox, none⟩) nx c3 xs rfl (HI34.out.1.below (stpA (Below.refl _ _) _)) HNX.out HI34.out.2.2.2 (by have := HX5.out; omega) (by rw [World.size_alloc]; omega) ?_; intro v5 w5 L1 hm1 hr1 hown5 hgr5; rw [List.nil_append, Nat.zero_add] at hown5; have HO5 := Lib.hid hown5; have HM1 := Lib.hid hm1; have HR1 := Lib.hid hr1; have HG5 : Hid (Below w4.heap.size w4 w5 ∧ Below w4.heap.size (w4.alloc (.cells #[] 32)) w5) := Lib.hid ⟨(stpA (Below.refl w4.heap.size w4) (.cells #[] 32)).grown hgr5 (by rw [World.size_alloc]; omega) (fun g hg => ((own_none9 w4 32 4).lt g hg).1), (Below.refl _ _).grown hgr5 (by rw [World.size_alloc]; omega) (fun g hg => ((own_none9 w4 32 4).lt g hg).1)⟩; clear hown5 hgr5 hm1 hr1)
                | (at_builtin; refine wpList_guarded9 rfl ?_; refine wpList_append_tk rfl (.tmp 179) (.tmp 180) 23 rfl w4.heap.size 32 i0 (.agg #[.int .u8 0, .string ⟨#[]⟩, .slice none 0 0, .string ⟨#[]⟩]) Tryz.underlying23 HI.out HZ0.out HZ1.out HZ2.out rfl _ nx _ rfl HO5.out w4.heap.size (some ⟨by', oy, none⟩) ny c4 ys rfl (HI4.out.1.below HG5.out.1) HNY.out HI4.out.2.2.2 (by have := HS512.out; omega) HG5.out.1.size ?_; intro v6 w6 L2 hm2 hr2 hown6 hgr6; obtain ⟨A6, c6, rfl⟩ := own_form2 hown6; have HG6 : Hid (Below w4.heap.size w4 w6) := Lib.hid (HG5.out.1.grown hgr6 HG5.out.1.size (fun g hg => (HO5.out.lt g hg).1)); have HR6 := Lib.hid (two_lists HR1.out hr2 (HG5.out.2.grown hgr6 HG5.out.1.size (fun g hg => (HO5.out.lt g hg).1)) ((Below.refl w4.heap.size w5).grown hgr6 HG5.out.1.size (fun g hg => (HO5.out.lt g hg).1)) HG6.out.size hown6); rw [HM1.out, hm2] at HR6; clear hown6 hgr6 hm2 hr2)
                | (go_at_call 14; (with_reducible refine (are_yes ab A6 _ c6 (xs ++ ys) w6 SAB.out HR6.out HLL.out HFIN.out (hE := HEV.out.to (bel_in9 HB4.out HG6.out))).mono ?_); rintro e7 w7 ⟨rfl, hb7⟩; have HB7 : Hid (Below w.heap.size w w7) := Lib.hid (bel_in9 (bel_in9 HB4.out HG6.out) hb7); clear hb7)
                | fail)
              go_ret
              exact ⟨rfl, HB7.out⟩
    · have g1 : (eb != 0) = true := by simpa using hf
      go_wp2_with fail
      go_ret
      exact ⟨rfl, HB4.out⟩
  · have g0 : (ea != 0) = true := by simpa using he
    go_wp2_with fail
    go_ret
    exact ⟨rfl, HB4.out⟩
theorem walk (a0 a1 a2 : ByteArray) (a3 : Option Addr) (len3 cap3 : Nat) (l3 : List UInt8) (w : World) (w0 : a0.size ≤ maxLen) (w1 : a1.size ≤ maxLen) (w2 : a2.size ≤ maxLen) (w3 : RdA w w.heap.size a3 l3) (n3 : l3.length = len3) (m3 : len3 ≤ maxLen) (z3 : a3 = none → cap3 = 0) (hE : Ev9 w := by first | assumption | exact Ev9.to (by assumption) (by assumption)) :
    Calls Tryz.prog 6 #[.string a0, .string a1, .string a2, .slice a3 len3 cap3] w fun e w' => e = .returned (.bool true) ∧ Below w.heap.size w w' := by
  by_cases h : 1000 < a0.size ∨ (a0.size ≤ 1000 ∧ 1000 < a1.size) ∨ (a0.size ≤ 1000 ∧ a1.size ≤ 1000 ∧ 100 < a2.size) ∨ (a0.size ≤ 1000 ∧ a1.size ≤ 1000 ∧ a2.size ≤ 100 ∧ 100 < len3)
  · exact walkOut a0 a1 a2 a3 len3 cap3 l3 w h
  · obtain ⟨xs, na, ea, hla⟩ : ∃ xs na ea, lexR a0.data.toList = (xs, na, ea) := ⟨_, _, _, rfl⟩
    obtain ⟨ys, nb, eb, hlb⟩ : ∃ ys nb eb, lexR a1.data.toList = (ys, nb, eb) := ⟨_, _, _, rfl⟩
    exact walkIn a0 a1 a2 a3 len3 cap3 l3 w (by omega) (by omega) (by omega) (by omega) w3 n3 xs ys na nb ea eb hla hlb

theorem gErr : Tryz.prog.globalNamed "strconv.ErrSyntax" = some 3 := by kernel_rfl
theorem gErrT : (Tryz.prog.globals[3]?).map (·.type) = some 72 := by kernel_rfl
theorem starE : "*" ++ "errors.errorString" = "*errors.errorString" := by decide
theorem rowE (u : TypeId) (h : Tryz.prog.typeName? 3 u = some "*errors.errorString") : u = 156 :=
  typeName_ptr_named (nm := "errors.errorString") (by rw [starE]; kernel_rfl) (by kernel_rfl) (by decide) u (by rw [starE]; exact h)
theorem erred {W : World} (h : laidMetH Tryz.prog Rows.lexPartsRow.laid W) : Ev W := by
  rw [MakeChecks.laidMetH_plain _ _ _ (by kernel_rfl)] at h
  have h2 := laidMet.filter (fun x => x.1 == "strconv.ErrSyntax") h
  have e : Rows.lexPartsRow.laid.filter (fun x => x.1 == "strconv.ErrSyntax") = [("strconv.ErrSyntax", Rows.laid_strconv_ErrSyntax)] := by kernel_rfl
  rw [e] at h2
  obtain ⟨a, s, h3, _⟩ := laid_sentinel (r := []) h2 gErr gErrT Tryz.underlying72 rowE Tryz.underlying156 Tryz.underlying158 rfl rfl Tryz.underlying9 (by kernel_rfl) (by kernel_rfl)
  exact ⟨_, _, by simpa using World.var?_cell gErr h3 0⟩
theorem reads_first {W : World} (h : laidMetH Tryz.prog Rows.lexPartsRow.laid W) : Lib.VarReads Tryz.prog W "unicode/utf8.first" Lib.firstData := by
  rw [MakeChecks.laidMetH_plain _ _ _ (by kernel_rfl)] at h
  have h2 := laidMet.filter (fun x => x.1 == "unicode/utf8.first") h
  have e : Rows.lexPartsRow.laid.filter (fun x => x.1 == "unicode/utf8.first") = [("unicode/utf8.first", Lib.firstData)] := by kernel_rfl
  rw [e] at h2
  exact Lib.laidMet.reads h2 (.head _)
theorem reads_acceptRanges {W : World} (h : laidMetH Tryz.prog Rows.lexPartsRow.laid W) : Lib.VarReads Tryz.prog W "unicode/utf8.acceptRanges" Lib.acceptData := by
  rw [MakeChecks.laidMetH_plain _ _ _ (by kernel_rfl)] at h
  have h2 := laidMet.filter (fun x => x.1 == "unicode/utf8.acceptRanges") h
  have e : Rows.lexPartsRow.laid.filter (fun x => x.1 == "unicode/utf8.acceptRanges") = [("unicode/utf8.acceptRanges", Lib.acceptData)] := by kernel_rfl
  rw [e] at h2
  exact Lib.laidMet.reads h2 (.head _)
theorem laid9 {W : World} (h : laidMetH Tryz.prog Rows.lexPartsRow.laid W) : Ev9 W := ⟨erred h, tabs9 (reads_first h) (reads_acceptRanges h)⟩
set_option maxRecDepth 100000 in
theorem lifted (os : Os) (started : os.Started) (H : Type) (enc : TypeId × Value → H) :
    ReturnsInHanded {} Tryz.checked os 6 .any (fun w args => (Rows.lexPartsSpec.pre enc Tryz.prog Tryz.f6 [] false w args ∧ laidMetH Tryz.prog Rows.lexPartsRow.laid w) ∧ sizedMet enc Tryz.prog Tryz.f6 (OpenSpec.ofChange Rows.lexPartsSpec) false w args) (Rows.lexPartsSpec.post enc Tryz.prog Tryz.f6 false true false false) := by
  refine returnsInHanded_of_change_and (C := Tryz.checked) (X := fun w _ => laidMetH Tryz.prog Rows.lexPartsRow.laid w) (fun _ _ _ hh h => h.of_heap hh) own started (by kernel_rfl) Tryz.func6
    (ChangeSpec.witness_shaped (enc := enc) (C := Tryz.checked) (os := os) (X := fun w _ => laidMetH Tryz.prog Rows.lexPartsRow.laid w) false (World.laidAll Tryz.prog os Rows.lexPartsRow.laid) #[.string ByteArray.empty, .string ByteArray.empty, .string ByteArray.empty, .slice none 0 0] 8 (World.laidAll_os _ _ _) (World.shaped_of_ZipB (by kernel_rfl) (by kernel_rfl)) (by kernel_rfl) (by kernel_rfl) (by kernel_rfl)
      (by rw [MakeChecks.laidMetH_plain _ _ _ (by kernel_rfl)]; exact laidMet_laidAll _ (by kernel_rfl) (by kernel_rfl))) ?_
  intro W base args ds gs before hval0 hW _ _ hL _
  have hval : ∀ (j : Nat) t v, Tryz.f6.params[j]? = some t → args[j]? = some v → Value.okWide Tryz.prog W .any base t v := hval0
  have hW' := hW
  obtain ⟨p, q, hA0, hV, rfl, hfz, hnd⟩ := hW
  have hA : DataW.TrodAll enc Tryz.prog W 0 (fun _ => true) true Tryz.f6.params.toList args.toList ds p := hA0
  rw [Tryz.params6] at hA hval
  obtain ⟨v0, vs0, d0, ds0, p0, q0, hargs, rfl, rfl, h0, r0⟩ := trodAll_cons hA
  obtain ⟨v1, vs1, d1, ds1, p1, q1, rfl, rfl, rfl, h1, r1⟩ := trodAll_cons r0
  obtain ⟨v2, vs2, d2, ds2, p2, q2, rfl, rfl, rfl, h2, r2⟩ := trodAll_cons r1
  obtain ⟨v3, vs3, d3, ds3, p3, q3, rfl, rfl, rfl, h3, r3⟩ := trodAll_cons r2
  obtain ⟨rfl, rfl, rfl⟩ := trodAll_nil r3
  obtain rfl : args = #[v0, v1, v2, v3] := by cases args; simp_all
  obtain ⟨rfl, rfl⟩ := trodVars_none hV
  obtain ⟨a0, rfl, rfl, rfl, w0⟩ := open_string Tryz.underlying9 (hval 0 9 v0 rfl rfl) h0
  obtain ⟨a1, rfl, rfl, rfl, w1⟩ := open_string Tryz.underlying9 (hval 1 9 v1 rfl rfl) h1
  obtain ⟨a2, rfl, rfl, rfl, w2⟩ := open_string Tryz.underlying9 (hval 2 9 v2 rfl rfl) h2
  obtain ⟨a3, len3, cap3, rfl⟩ := okWide_slice Tryz.underlying27 (hval 3 27 v3 rfl rfl)
  have k3 := h3
  have lt3 : ∀ x ∈ p3, x.block < W.heap.size := by obtain ⟨m, hm⟩ := k3; exact DataW.trod_lt m _ _ _ hm
  obtain ⟨l3, w3, n3, c3, m3, z3⟩ : ∃ l : List UInt8, RdA W W.heap.size a3 l ∧ l.length = len3 ∧ len3 ≤ cap3 ∧ cap3 ≤ maxLen ∧ (a3 = none → cap3 = 0) := by
    obtain ⟨fuel, hf⟩ := h3
    rcases open_ints Tryz.underlying27 Tryz.underlying5 (by kernel_rfl) hf with ⟨hcs, _⟩ | ⟨x, l, c, zs, hcs, _, hl, hm, hz, _, hcell, hwz⟩
    · simp [Value.cells] at hcs
      obtain ⟨rfl, rfl, rfl⟩ := hcs
      exact ⟨[], RdA.nil _ _ _, rfl, Nat.le_refl _, Nat.zero_le _, fun _ => rfl⟩
    · simp [Value.cells] at hcs
      obtain ⟨rfl, rfl, rfl⟩ := hcs
      have hz' : zs.length = cap3 := by simpa using hz
      obtain ⟨l, hr, hn⟩ := rdA_of_row hl hz' hcell hwz
      exact ⟨l, hr, hn, hl, hm, fun h => by cases h⟩
  clear hA0 hval0
  refine (walk a0 a1 a2 a3 len3 cap3 l3 W w0 w1 w2 w3 n3 (Nat.le_trans c3 m3) z3 (laid9 hL)).mono fun e W' ⟨he, bel⟩ => ?_
  subst he
  exact ⟨_, rfl, _, _, _, [], _, [], hW', trodAll_mk1 (shut_bool Tryz.underlying4 _), (trodAll_cons_mk (shut_string Tryz.underlying9 w0) (trodAll_cons_mk (shut_string Tryz.underlying9 w1) (trodAll_cons_mk (shut_string Tryz.underlying9 w2) (trodAll_cons_mk (Below.trod laidOut (by kernel_rfl) (of_decide_eq_true (by kernel_rfl)) k3 bel lt3) trodAll_mk0)))), rfl, bel.frame _, fun h => by cases h⟩

theorem over : Rows.lexPartsRow.holds Tryz.pinned (OpenSpec.ofChange Rows.lexPartsSpec) :=
  OpenClaim.holds_of_wide 6 Tryz.f6 rfl rfl rfl rfl rfl rfl rfl ⟨rfl, rfl, rfl, rfl, rfl⟩ rfl rfl rfl rfl rfl (by kernel_rfl) Tryz.func6 (by kernel_rfl)
    (of_decide_eq_true (by kernel_rfl)) (by unfold Func.isWrapper; first | (rw [if_pos (by decide +kernel)]; kernel_rfl) | (rw [if_neg (by decide +kernel)]; exact ⟨rfl, rfl⟩))
    (fun os started H enc _ => lifted os started H enc)

theorem said : Rows.LexPartsSaid := over
theorem plain (f : FuncId) (fn : Func) (hf : Tryz.pinned.checked.prog.funcNamed "tidewaiter/tidewaiterlaw09.LexParts" = some f) (hfn : Tryz.pinned.checked.prog.funcs[f]? = some fn) :
    true = Tryz.pinned.checked.prog.looks [] ∧ ∀ (j : Nat) t, fn.params[j]? = some t → Tryz.pinned.checked.prog.wantsStandIn t = false := by
  obtain rfl : f = 6 := Option.some.inj ((show Tryz.prog.funcNamed "tidewaiter/tidewaiterlaw09.LexParts" = some 6 by kernel_rfl).symm.trans hf) |>.symm
  obtain rfl : fn = Tryz.f6 := (Option.some.inj (Tryz.func6.symm.trans hfn)).symm
  refine ⟨by kernel_rfl, fun j t ht => ?_⟩
  rw [Tryz.params6] at ht
  have hm : t ∈ [9, 9, 9, 27] := by simpa using Array.mem_of_getElem? ht
  have hall : ([9, 9, 9, 27].all fun u => !Tryz.prog.wantsStandIn u) = true := by kernel_rfl
  exact (show Tryz.prog.wantsStandIn t = false by simpa using List.all_eq_true.1 hall t hm)
theorem proved : Rows.LexPartsCardSaid :=
  Claim7.holds_tied_plain_at .later [] _ _ _ _ said (fun _ h => by cases h) (by kernel_rfl) (fun _ h => by cases h) lexParts_row_tie rfl ⟨rfl, rfl⟩ (by kernel_rfl) rfl plain (by kernel_rfl)
end Go.Proofs.YtichboamakgabaaGreatDoor.lexParts
