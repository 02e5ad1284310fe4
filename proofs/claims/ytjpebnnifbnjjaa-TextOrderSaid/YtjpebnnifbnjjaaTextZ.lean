/-
  Contracts of package text: Points.
-/
import Derived.Test.YtjpebnnifbnjjaaTextQ
import Derived.OwnWalk
import Derived.OneCell
namespace Go.Proofs.Ytjpebnnifbnjjaa
open Go.RowKit
namespace Hx
open Tx
set_option linter.unusedVariables false
theorem own_it {w : World} {B e size n : Nat} {v : Value} {xs : List Value} {k : Nat} {s : ByteArray} {pos : Nat} (h : w.ownsRow B e size v n xs) (hk : w.heap[k]? = some (.stringIter s pos)) (pos' : Nat) : (w.iterAt k s pos').ownsRow B e size v n xs := by
  refine ⟨h.1, ?_⟩
  rcases h.2 with h0 | ⟨g, cap, cur, hv, hb, hg, rest⟩
  · exact .inl h0
  · refine .inr ⟨g, cap, cur, hv, hb, ?_, rest⟩
    rw [Lib.iterAt_other _ _ _ _ _ (fun e => by subst e; rw [hk] at hg; cases hg)]
    exact hg
theorem own_nit {w : World} {B e size n : Nat} {v : Value} {xs : List Value} {k : Nat} {s : ByteArray} {pos : Nat} (h : w.ownsRow B e size v n xs) (hk : w.heap[k]? = some (.stringIter s pos)) : some k ≠ v.ownBlock := by
  rcases h.2 with ⟨rfl, _⟩ | ⟨g, cap, cur, rfl, hb, hg, rest⟩
  · simp [Value.ownBlock]
  · intro e
    simp only [Value.ownBlock, Option.some.injEq] at e
    subst e
    rw [hk] at hg
    cases hg
theorem it_grown {w w' : World} {row : Option Nat} {k : Nat} {s : ByteArray} {pos : Nat} (hk : w.heap[k]? = some (.stringIter s pos)) (hg : w.grownBy w' row) (hne : some k ≠ row) : w'.heap[k]? = some (.stringIter s pos) :=
  (hg.block k (lt_of_block hk) hne).trans hk
theorem it_alloc {w : World} {k : Nat} {s : ByteArray} {pos : Nat} (hk : w.heap[k]? = some (.stringIter s pos)) (o : Obj) : (w.alloc o).heap[k]? = some (.stringIter s pos) :=
  it_grown hk (World.grownBy_alloc w o none) (by simp)
set_option maxHeartbeats 2000000 in
set_option maxRecDepth 100000 in
/-- text.Points. -/
theorem points5_ok (s : ByteArray) (ns : List Nat) (w : World) (hm : s.size ≤ 16384) (h : pts s.data.toList = some ns) :
    Calls Try.prog 14 #[.string s] w fun e w' => Below w.heap.size w w' ∧ ∃ A c, e = .returned (.tuple #[.slice A ns.length c, .int .i64 0]) ∧ (A = none → c = 0) ∧ RdZ w' w'.heap.size A (zs ns) := by
  have hc : chkE s = 0 := by unfold chkE; rw [if_neg (by omega), h]; rfl
  have HM : Hid (s.size ≤ 1000000) := Lib.hid (by omega)
  have HC := Lib.hid hc
  have HP := Lib.hid h
  obtain ⟨i0, hi, hz0, hz1, hz2⟩ := info_parts infoZ
  have QI := Lib.hid hi
  have QZ0 := Lib.hid hz0
  have QZ1 := Lib.hid hz1
  have QZ2 := Lib.hid hz2
  have HS := Lib.hid hm
  have HB : Hid (i0.bytes * s.size ≤ 281474976710656 ∧ s.size ≤ maxLen) := by
    refine ⟨?_, ?_⟩
    · rw [hz2]; omega
    · unfold maxLen; omega
  clear hi hz0 hz1 hz2 hc h hm
  go_enter Try.func14, Try.ntmps14
  go_wp2_with (first
    | (go_at_call 9; (with_reducible refine (check5 s w HM.out 0 HC.out).mono ?_); rintro e w1 ⟨rfl, hb1⟩; have HB1 := Lib.hid hb1; have hs1 := hb1.size)
    | (refine wpList_make_own w1 rfl _ _ 28 rfl w.heap.size 3 i0 (.int .i64 0) 1 Try.underlying28 QI.out QZ0.out QZ1.out .i64 .i64 (s.size : Int) s.size rfl rfl rfl HB.out.1 HB.out.2 hs1 ?_; intro w2 hown2 hgr2; have HO2 := Lib.hid hown2; have HB2 : Hid (Below w.heap.size w w2) := Lib.hid (HB1.out.grown hgr2 hs1 (fun _ h => by cases h)); have hs2 := HB2.out.size; clear hown2 hgr2)
    | fail)
  have hit0 := World.iter_heap w2 s 0
  have HB3 : Hid (Below w.heap.size w (w2.iter s 0)) := Lib.hid (HB2.out.alloc hs2 _)
  have HO3 := Lib.hid (HO2.out.alloc (.stringIter s 0))
  have hsB : w.heap.size ≤ w2.heap.size := hs2
  obtain ⟨B, hB⟩ : ∃ B, w2.heap.size = B := ⟨_, rfl⟩
  rw [hB] at hit0 hsB
  rw [hB]
  have HI0 := Lib.hid hit0
  clear hit0 hB hs2 HB2 HO2 hb1
  go_loopg [5, 7] s.size (fun g v y wr => ∃ (pos : Nat) (l : List Nat), s.size ≤ pos + g ∧ wr.heap[B]? = some (.stringIter s pos) ∧ wr.ownsRow w.heap.size 3 1 v l.length ((zs l).map encZ) ∧ Below w.heap.size w wr ∧ (pts (s.data.toList.drop pos)).map (l ++ ·) = some ns ∧ l.length ≤ pos)
  case atStart => exact ⟨0, [], by omega, HI0.out, HO3.out, HB3.out, by rw [List.drop_zero, HP.out]; rfl, by simp⟩
  case round =>
    obtain ⟨pos, l, hg, hit, hown, hbw, hp, hl⟩ := hrel
    have HIT := Lib.hid hit
    have HO := Lib.hid hown
    have HBW := Lib.hid hbw
    have HPP := Lib.hid hp
    have hsz := hbw.size
    clear hbw hp HB3 HO3 HI0 hs1
    by_cases hlt : pos < s.size
    · cases ho : one (s.data.toList.drop pos) with
      | none =>
        exfalso
        have := HPP.out
        rw [step_none s pos hlt ho] at this
        cases this
      | some x =>
        obtain ⟨p, k⟩ := x
        obtain ⟨e1, e2, e3, e4, e5⟩ := step_some s pos p k hlt ho
        have hple := (one_le ho).2.2
        have hnx0 : ∀ ty, (Instr.next (.pointer (some ⟨B, 0, none⟩)) true ty).run Try.prog wr = _ := fun ty => Lib.run_next_any_at wr B s pos ty HIT.out hlt
        rw [e1] at hnx0
        have hit2 := Lib.iterAt_heap wr B s pos (pos + k) HIT.out
        have hown2 := own_it HO.out HIT.out (pos + k)
        have hbw2 := Lib.below_iterAt HBW.out (k := B) hsB s (pos + k)
        have hsz2 := Lib.iterAt_size wr B s (pos + k)
        have hnx : ∀ ty, (Instr.next (.pointer (some ⟨B, 0, none⟩)) true ty).run Try.prog wr = .ok (.tuple #[.bool true, .int .i64 pos, .int .i32 p]) (wr.iterAt B s (pos + k)) := hnx0
        obtain ⟨W, hW⟩ : ∃ W, wr.iterAt B s (pos + k) = W := ⟨_, rfl⟩
        rw [hW] at hnx hit2 hown2 hbw2 hsz2
        have HW1 := Lib.hid hit2
        have HW2 := Lib.hid hown2
        have HW3 := Lib.hid hbw2
        have hszW := hbw2.size
        have HPN : Hid ((pts (s.data.toList.drop (pos + k))).map ((l ++ [p]) ++ ·) = some ns) := by
          show _ = _
          rw [← HPP.out, e5]
          cases pts (s.data.toList.drop (pos + k)) <;> simp
        have g1 : IntKind.i64.wrap (p : Int) = (p : Int) := IntWalk.i64_in _ (by omega)
        clear hW hnx0 hit2 hown2 hbw2 hsz2 e1 e2 e5 ho hit hown
        go_wp2_with (first
          | (at_builtin; refine wpList_append_rdg encZ_one rfl (.tmp 21) (.tmp 24) 28 rfl w.heap.size 3 i0 (.int .i64 0) 8 Try.underlying28 QI.out QZ0.out QZ1.out QZ2.out (by decide) rfl _ l.length _ rfl (HW2.out.alloc (.cells #[.int .i64 p] 3)) (W.heap.size + 1) (some ⟨W.heap.size, 0, none⟩) 1 1 [(p : Int)] rfl (RdG.new (enc := encZ) W 3 [(p : Int)]) rfl (fun h => by cases h) (by have := HS.out; omega) (by rw [World.size_alloc]; omega) ?_; intro v4 w4 hown4 hgr4; have HO4 := Lib.hid hown4; have HG4 := Lib.hid hgr4; clear hown4 hgr4)
          | fail)
        have hb4 : Below w.heap.size w w4 := (HW3.out.alloc hszW _).grown HG4.out (by rw [World.size_alloc]; omega) (fun g hg => (HW2.out.lt g hg).1)
        have hit4 : w4.heap[B]? = some (.stringIter s (pos + k)) := it_grown (it_alloc HW1.out _) HG4.out (own_nit HW2.out HW1.out)
        go_roundg (gk - 1)
        case rel =>
          refine ⟨pos + k, l ++ [p], by omega, hit4, ?_, hb4, HPN.out, by simp; omega⟩
          rw [List.length_append, zs_append, List.map_append]
          exact HO4.out
        case measure => omega
    · have hnx : ∀ ty, (Instr.next (.pointer (some ⟨B, 0, none⟩)) true ty).run Try.prog wr = _ := fun ty => Lib.run_next_end_at wr B s pos ty HIT.out hlt
      obtain ⟨A', c', rfl⟩ := own_form hown
      have HRD := Lib.hid (RdG.of_own hown).1
      have HZN : Hid (A' = none → c' = 0) := by
        intro hA
        subst hA
        rcases HO.out.2 with ⟨e, _⟩ | ⟨g, cap, cur, e, _⟩
        · injection e with _ _ h3
        · injection e with h3 _ _
          cases h3
      have hpe := HPP.out
      rw [pts_end s pos hlt] at hpe
      obtain rfl : l = ns := by simpa using hpe
      clear hown hpe hit
      go_wp2_with fail
      go_ret2
      exact ⟨HBW.out, A', c', rfl, HZN.out, HRD.out⟩
set_option maxRecDepth 100000 in
theorem points5_no (s : ByteArray) (q : Int) (w : World) (hm : s.size ≤ 1000000) (h : chkE s = q) (hq : q ≠ 0) :
    Calls Try.prog 14 #[.string s] w fun e w' => e = .returned (.tuple #[.slice none 0 0, .int .i64 q]) ∧ Below w.heap.size w w' := by
  have HM := Lib.hid hm
  have HC := Lib.hid h
  have q0 : (q == 0) = false := by simpa using hq
  have q1 : (q != 0) = true := by simpa using hq
  clear hm h hq
  go_enter Try.func14, Try.ntmps14
  go_wp2_with (first
    | (go_at_call 9; (with_reducible refine (check5 s w HM.out q HC.out).mono ?_); rintro e w1 ⟨rfl, hb1⟩)
    | fail)
  go_ret2
  exact ⟨rfl, hb1⟩
end Hx
end Go.Proofs.Ytjpebnnifbnjjaa
