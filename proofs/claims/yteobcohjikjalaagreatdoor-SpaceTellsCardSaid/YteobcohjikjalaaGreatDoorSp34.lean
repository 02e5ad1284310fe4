/-
  Texts of one seat, put together: SpaJ, SraG, SraH, SrbF.
-/
import Derived.Test.YteobcohjikjalaaGreatDoorSp33
import Derived.Deep.LoopGhost
import Derived.WalkMore
import Derived.Test.YteobcohjikjalaaGreatDoorSp18
import Derived.Test.YteobcohjikjalaaGreatDoorSp32
set_option linter.unusedSimpArgs false
namespace Go.Proofs.YteobcohjikjalaaGreatDoor
open Go.RowKit
namespace Hx
open Lx Tr Tx Nmb Es Ns
set_option maxRecDepth 100000
set_option maxHeartbeats 16000000
set_option linter.unusedVariables false
theorem infoS1 : (Tryz.prog.info? 9).map (fun i => (i.zero, i.size, i.bytes)) = some (some (.string ⟨#[]⟩), 1, 16) := by kernel_rfl
def stepS (acc : List (List UInt8)) (a : At) : List (List UInt8) := if a.space = [] ∨ a.space = ofXml ∨ a.space ∈ acc then acc else acc ++ [a.space]
theorem spacesL_fold : ∀ (l : List At) (acc : List (List UInt8)), spacesL acc l = l.foldl stepS acc
  | [], acc => rfl
  | a :: l, acc => by
    rw [spacesL, List.foldl_cons]
    unfold stepS
    split <;> rw [spacesL_fold l]
    · rfl
    · rfl
structure NuSt (l : List At) (j : Nat) (base : Nat) (w : World) (S : List ByteArray) (V : Value) (wr : World) : Prop where
  fold : (l.take j).foldl stepS [] = S.map (·.data.toList)
  len : S.length ≤ j
  own : wr.ownsRow base 9 1 V S.length (S.map Value.string)
  sz : base ≤ wr.heap.size
  below : Below base w wr
theorem NuSt.skip {l : List At} {j base : Nat} {w : World} {S : List ByteArray} {V : Value} {wr : World} (h : NuSt l j base w S V wr) {a : At} (ha : l.take (j + 1) = l.take j ++ [a]) (hd : a.space = [] ∨ a.space = ofXml ∨ a.space ∈ S.map (·.data.toList)) {w' : World} (hb : Below wr.heap.size wr w') : NuSt l (j + 1) base w S V w' := by
  refine ⟨?_, Nat.le_succ_of_le h.len, own_belowK h.own hb (Nat.le_refl _), Nat.le_trans h.sz hb.size, h.below.trans (hb.mono h.sz)⟩
  rw [ha, List.foldl_append, h.fold]
  show stepS _ a = _
  unfold stepS
  rw [if_pos hd]
theorem NuSt.snoc {l : List At} {j base : Nat} {w : World} {S : List ByteArray} {V : Value} {wr : World} (h : NuSt l j base w S V wr) {a : At} (ha : l.take (j + 1) = l.take j ++ [a]) (hd : ¬ (a.space = [] ∨ a.space = ofXml ∨ a.space ∈ S.map (·.data.toList))) {x : ByteArray} (hx : x.data.toList = a.space) {w4 w5 : World} {V5 : Value}
    (h4 : Below base w w4) (hz4 : base ≤ w4.heap.size) (hV : ∀ g, V.ownBlock = some g → base ≤ g) (hown : w5.ownsRow base 9 1 V5 (S.length + 1) (S.map Value.string ++ [.string x])) (hgr : w4.grownBy w5 V.ownBlock) : NuSt l (j + 1) base w (S ++ [x]) V5 w5 := by
  refine ⟨?_, by rw [List.length_append]; exact Nat.succ_le_succ h.len, ?_, Nat.le_trans hz4 hgr.size, h4.grown hgr hz4 hV⟩
  · rw [ha, List.foldl_append, h.fold]
    show stepS _ a = _
    unfold stepS
    rw [if_neg hd, List.map_append, List.map_cons, List.map_nil, hx]
  · rw [List.length_append, List.map_append]
    exact hown
theorem nu_at {w : World} {base n c : Nat} {A : Option Addr} {S : List ByteArray} (h : w.ownsRow base 9 1 (.slice A n c) n (S.map Value.string)) (hn : S.length = n) {k : Nat} (hk : k < n) :
    ∃ g off, A = some ⟨g, off, none⟩ ∧ w.cell? ⟨g, off + k, none⟩ = some (.string (S[k]'(by omega))) := by
  rcases h.2 with ⟨e1, h0⟩ | ⟨g, cap, cur, hv, hb, hg, hnc, hcm, _, _⟩
  · injection e1 with e1 e2 e3
    omega
  · injection hv with e1 e2 e3
    subst e1 e3
    refine ⟨g, 0, rfl, ?_⟩
    have := h.cells (g := g) rfl k (.string (S[k]'(by omega))) (by rw [List.getElem?_map, List.getElem?_eq_getElem (by omega)]; rfl)
    rw [addr_plain] at this
    exact this
def NumTo (l : List At) (w : World) (e : Ending) (w' : World) : Prop := ∃ (A : Option Addr) (c : Nat) (S : List ByteArray), e = .returned (.slice A S.length c) ∧ S.map (·.data.toList) = spacesL [] l ∧ w'.ownsRow w.heap.size 9 1 (.slice A S.length c) S.length (S.map Value.string) ∧ Below w.heap.size w w'
theorem numbered11 (A : Option Addr) (n c : Nat) (l : List At) (w : World) (hr : RdB AtS w A l) (hn : l.length = n) (hna : n ≤ 1000000) :
    Calls Tryz.prog 49 #[.slice A n c] w (NumTo l w) := by
  obtain ⟨i0, hi, hz0, hz1, hz2⟩ := info_parts infoS1
  have HI := Lib.hid hi
  have HZ0 := Lib.hid hz0
  have HZ1 := Lib.hid hz1
  have HZ2 := Lib.hid hz2
  have HR := Lib.hid hr
  have HN := Lib.hid hn
  have bn : (n : Int) ≤ 1000000 := by omega
  clear hi hz0 hz1 hz2 hr hn
  go_enter Tryz.func49, Tryz.ntmps49
  go_wp2_with fail
  go_step3
  go_wp2_with fail
  go_step3
  go_wp2_with fail
  go_loopg [3, 10] n (fun gg x3 i wr => ∃ (j : Nat) (S : List ByteArray), j + gg = n ∧ i = .int .i64 j ∧ (∃ A1 c1, x3 = .slice A1 S.length c1) ∧ NuSt l j w.heap.size w S x3 wr)
  case atStart => exact ⟨0, [], by omega, rfl, ⟨none, 0, rfl⟩, ⟨rfl, Nat.le_refl _, World.ownsRow_nil _ _ _ _, Nat.le_refl _, Below.refl _ _⟩⟩
  case round =>
    obtain ⟨j, S, hjg, rfl, ⟨A1, c1, rfl⟩, hst⟩ := hrel
    have HST := Lib.hid hst
    have HVB : Hid (∀ g, (Value.slice A1 S.length c1).ownBlock = some g → w.heap.size ≤ g) := Lib.hid fun g hg => (hst.own.lt g hg).1
    by_cases hlt : j < n
    · obtain ⟨g, rfl⟩ : ∃ g, gk = g + 1 := ⟨gk - 1, by omega⟩
      have HG : Hid (g < g + 1) := Nat.lt_succ_self g
      have hjl : j < l.length := by rw [HN.out]; exact hlt
      obtain ⟨b0, off, x2, y2, z2, hA, hbB, hx, hy, hz, c0, c1', c2⟩ := at_at HR.out hjl
      obtain ⟨a, ha⟩ : ∃ a, l[j]'hjl = a := ⟨_, rfl⟩
      rw [ha] at hx
      have q0 := (hst.below.cell (p := ⟨b0, _, none⟩) hbB).trans c0
      have q1 := (hst.below.cell (p := ⟨b0, _, none⟩) hbB).trans c1'
      have q2 := (hst.below.cell (p := ⟨b0, _, none⟩) hbB).trans c2
      have HTK : Hid (l.take (j + 1) = l.take j ++ [a]) := Lib.hid (by rw [List.take_succ_eq_append_getElem hjl, ha])
      have HXD := Lib.hid hx
      have bj : (0 : Int) ≤ (j : Int) ∧ (j : Int) < (n : Int) := by omega
      have HJG := Lib.hid hjg
      obtain ⟨wo, rfl⟩ : ∃ wo : World, wo = wr := ⟨_, rfl⟩
      obtain ⟨W1, hW1⟩ : ∃ W1, wo.alloc (.cells #[.string x2, .string y2, .string z2] 41) = W1 := ⟨_, rfl⟩
      have HB1 : Hid (Below wo.heap.size wo W1) := Lib.hid (by rw [← hW1]; exact stpA (Below.refl _ _) _)
      have HX1 : Hid (W1.heap[wo.heap.size]? = some (.cells #[.string x2, .string y2, .string z2] 41 (0, 0))) := Lib.hid (by rw [← hW1]; exact heap_alloc_new wo _)
      have k0 := cellV W1 _ 0 _ _ _ HX1.out
      obtain ⟨p1, h1⟩ : ∃ p, decide (x2.data.toList = []) = p := ⟨_, rfl⟩
      obtain ⟨p2, h2⟩ : ∃ p, decide (x2.data.toList = ofXml) = p := ⟨_, rfl⟩
      have f1 := emp_lit x2 p1 h1
      have f2 := eq_lit x2 ofXml p2 h2
      unfold ofXml at f2
      subst hA
      cases p1 with
      | true =>
        have HNX : Hid (NuSt l (j + 1) w.heap.size w S (.slice A1 S.length c1) W1) := Lib.hid (hst.skip HTK.out (.inl (by rw [← hx]; exact of_decide_eq_true h1)) HB1.out)
        clear hst hx hy hz c0 c1' c2 ha hjl hbB h1 h2 hjg
        go_wp2_with (first
          | (refine wpList_store_row rfl _ _ _ rfl wo.heap.size #[.string x2, .string y2, .string z2] rfl rfl 41 #[.string ⟨#[]⟩, .string ⟨#[]⟩, .string ⟨#[]⟩] (heap_alloc_new _ _) sizeAt rfl (by simp [Value.oneCell']) ?_; rw [World.setRow_alloc_new, hW1])
          | fail)
        go_roundg g
        case measure => exact HG.out
        case rel => exact ⟨j + 1, S, by have := HJG.out; omega, by go_num, ⟨_, _, rfl⟩, HNX.out⟩
      | false =>
        cases p2 with
        | true =>
          have HNX : Hid (NuSt l (j + 1) w.heap.size w S (.slice A1 S.length c1) W1) := Lib.hid (hst.skip HTK.out (.inr (.inl (by rw [← hx]; exact of_decide_eq_true h2))) HB1.out)
          clear hst hx hy hz c0 c1' c2 ha hjl hbB h1 h2 hjg
          go_wp2_with (first
            | (refine wpList_store_row rfl _ _ _ rfl wo.heap.size #[.string x2, .string y2, .string z2] rfl rfl 41 #[.string ⟨#[]⟩, .string ⟨#[]⟩, .string ⟨#[]⟩] (heap_alloc_new _ _) sizeAt rfl (by simp [Value.oneCell']) ?_; rw [World.setRow_alloc_new, hW1])
            | fail)
          go_roundg g
          case measure => exact HG.out
          case rel => exact ⟨j + 1, S, by have := HJG.out; omega, by go_num, ⟨_, _, rfl⟩, HNX.out⟩
        | false =>
          have HNE : Hid (a.space ≠ [] ∧ a.space ≠ ofXml) := Lib.hid (by rw [← hx]; exact ⟨of_decide_eq_false h1, of_decide_eq_false h2⟩)
          have HSK : Hid (a.space ∈ S.map (·.data.toList) → NuSt l (j + 1) w.heap.size w S (.slice A1 S.length c1) W1) := Lib.hid fun hm => hst.skip HTK.out (.inr (.inr hm)) HB1.out
          have hbS : (S.length : Int) ≤ 1000000 := by have := hst.len; omega
          clear hst hx hy hz c0 c1' c2 ha hjl hbB h1 h2 hjg
          go_wp2_with (first
            | (refine wpList_store_row rfl _ _ _ rfl wo.heap.size #[.string x2, .string y2, .string z2] rfl rfl 41 #[.string ⟨#[]⟩, .string ⟨#[]⟩, .string ⟨#[]⟩] (heap_alloc_new _ _) sizeAt rfl (by simp [Value.oneCell']) ?_; rw [World.setRow_alloc_new, hW1])
            | fail)
          go_loopg [24] S.length (fun gg i wr => ∃ k : Nat, k + gg = S.length ∧ i = .int .i64 k ∧ wr = W1 ∧ a.space ∉ (S.take k).map (·.data.toList))
          case atStart => exact ⟨0, by omega, rfl, rfl, by simp⟩
          case round =>
            obtain ⟨k, hkg, rfl, rfl, hno⟩ := hrel
            by_cases hlk : k < S.length
            · obtain ⟨gs, offs, hA2, hcs⟩ := nu_at (own_belowK HST.out.own HB1.out (Nat.le_refl _)) rfl hlk
              obtain ⟨s, hs⟩ : ∃ s, S[k]'hlk = s := ⟨_, rfl⟩
              rw [hs] at hcs
              obtain ⟨qs, hqs⟩ : ∃ q, decide (s.data.toList = x2.data.toList) = q := ⟨_, rfl⟩
              have f3 := eq_two s x2 qs hqs
              have bk : (0 : Int) ≤ (k : Int) ∧ (k : Int) < (S.length : Int) := by omega
              cases qs with
              | true =>
                have HNX := Lib.hid (HSK.out (by rw [← HXD.out, ← of_decide_eq_true hqs, ← hs]; exact List.mem_map.2 ⟨_, List.getElem_mem hlk, rfl⟩))
                subst hA2
                clear hno hs hqs hkg HSK HST
                go_wp2_with fail
                go_roundg g
                case measure => exact HG.out
                case rel => exact ⟨j + 1, S, by have := HJG.out; omega, by go_num, ⟨_, _, rfl⟩, HNX.out⟩
              | false =>
                have HNO : Hid (a.space ∉ (S.take (k + 1)).map (·.data.toList)) := Lib.hid (by
                  rw [List.take_succ_eq_append_getElem hlk, List.map_append, List.mem_append, hs]
                  rintro (h | h)
                  · exact hno h
                  · rw [List.map_cons, List.map_nil, List.mem_singleton, ← HXD.out] at h
                    exact absurd h.symm (of_decide_eq_false hqs))
                have HKG := Lib.hid hkg
                subst hA2
                clear hno hs hqs hkg
                go_wp2_with fail
                go_roundg (gk - 1)
                case measure => have := HKG.out; omega
                case rel => exact ⟨k + 1, by have := HKG.out; omega, by go_num, rfl, HNO.out⟩
            · obtain rfl : k = S.length := by omega
              have hjj : ¬ ((S.length : Int) < (S.length : Int)) := by omega
              have HND : Hid (¬ (a.space = [] ∨ a.space = ofXml ∨ a.space ∈ S.map (·.data.toList))) := Lib.hid (by
                rw [List.take_length] at hno
                rintro (h | h | h)
                · exact HNE.out.1 h
                · exact HNE.out.2 h
                · exact hno h)
              clear hno hkg HSK
              go_wp2_with (first
                | (at_builtin; refine wpList_append_own_at _ rfl (.tmp 33) (.tmp 36) 76 rfl w.heap.size 9 i0 (.string ⟨#[]⟩) 1 16 Tryz.underlying76 HI.out HZ0.out HZ1.out HZ2.out rfl (by decide) _ S.length _ rfl (own_belowK HST.out.own (stpA HB1.out _) (Nat.le_refl _)) ⟨wr.heap.size, 0, none⟩ 1 1 [.string x2] rfl rfl (new_at wr [.string x2] 9 _ rfl) (by simp [Value.oneCell']) (by have := HST.out.len; unfold maxLen; omega) (by have := HST.out.len; omega) (by have := HST.out.sz; have := HB1.out.size; rw [World.size_alloc]; omega) ?_; intro v5 w5 hown5 hgr5 _ _; obtain ⟨A5, c5, rfl⟩ := own_form2 hown5; have HST5 := Lib.hid (HST.out.snoc HTK.out HND.out HXD.out (HST.out.below.trans ((stpA HB1.out _).mono HST.out.sz)) (by have := HST.out.sz; have := HB1.out.size; rw [World.size_alloc]; omega) HVB.out hown5 hgr5); clear hown5 hgr5)
                | fail)
              go_roundg g
              case measure => exact HG.out
              case rel => exact ⟨j + 1, S ++ [x2], by have := HJG.out; omega, by go_num, ⟨_, _, by rw [List.length_append]; rfl⟩, HST5.out⟩
    · obtain rfl : j = n := by omega
      have hjj : ¬ ((j : Int) < (j : Int)) := by omega
      have hfold := hst.fold
      rw [← HN.out, List.take_length, ← spacesL_fold] at hfold
      have HF := Lib.hid hfold.symm
      clear hst hfold
      go_wp2_with fail
      try rw [Exit.noGoto_ret]
      go_ret
      exact ⟨A1, c1, S, rfl, HF.out, HST.out.own, HST.out.below⟩
def whichN (l : List (List UInt8)) (s : List UInt8) : Nat := if s ∈ l then l.idxOf s + 1 else 0
theorem idx_first {l : List (List UInt8)} : ∀ {k : Nat} (h : k < l.length) {s : List UInt8}, s ∉ l.take k → l[k]'h = s → l.idxOf s = k := by
  induction l with
  | nil => intro k h; exact absurd h (Nat.not_lt_zero _)
  | cons b l ih =>
    intro k h s hn he
    cases k with
    | zero =>
      have e : b = s := he
      rw [e, List.idxOf_cons_self]
    | succ k =>
      rw [List.take_succ_cons, List.mem_cons, not_or] at hn
      have hb : (b == s) = false := by rw [beq_eq_false_iff_ne]; exact Ne.symm hn.1
      rw [List.idxOf_cons, hb, cond_false, ih (by simpa using h) hn.2 he]
theorem rwhich11 (A : Option Addr) (n c base : Nat) (S : List ByteArray) (x : ByteArray) (w : World) (h : w.ownsRow base 9 1 (.slice A n c) n (S.map Value.string)) (hn : S.length = n) (hb : n ≤ 1000000) :
    Calls Tryz.prog 88 #[.slice A n c, .string x] w fun e w' => e = .returned (.int .i64 (whichN (S.map (·.data.toList)) x.data.toList : Nat)) ∧ w' = w := by
  have HO := Lib.hid h
  have HN := Lib.hid hn
  have HB := Lib.hid hb
  clear h hn
  go_enter Tryz.func88, Tryz.ntmps88
  go_wp2_with fail
  go_loopg [5] n (fun gg i wr => ∃ k : Nat, k + gg = n ∧ i = .int .i64 k ∧ wr = w ∧ x.data.toList ∉ (S.take k).map (·.data.toList))
  case atStart => exact ⟨0, by omega, rfl, rfl, by simp⟩
  case round =>
    obtain ⟨k, hkg, rfl, rfl, hno⟩ := hrel
    have HNO := Lib.hid hno
    have HKG := Lib.hid hkg
    by_cases hlt : k < n
    · have hkl : k < S.length := by rw [HN.out]; exact hlt
      obtain ⟨g, off, rfl, hc⟩ := nu_at HO.out HN.out hlt
      have bk : (0 : Int) ≤ (k : Int) ∧ (k : Int) < (n : Int) := by omega
      obtain ⟨s, hs⟩ : ∃ s, S[k]'hkl = s := ⟨_, rfl⟩
      rw [hs] at hc
      by_cases hx : s = x
      · subst hx
        have t1 : (s.toList == s.toList) = true := by simp
        have hk2 : k < (S.map (·.data.toList)).length := by rw [List.length_map]; exact hkl
        have he : (S.map (·.data.toList))[k]'hk2 = s.data.toList := by rw [List.getElem_map, hs]
        have HW : Hid (whichN (S.map (·.data.toList)) s.data.toList = k + 1) := Lib.hid (by
          unfold whichN
          rw [if_pos (by rw [← he]; exact List.getElem_mem hk2), idx_first hk2 (by rw [← List.map_take]; exact HNO.out) he])
        clear hno hkg hs he
        go_wp2_with fail
        go_ret
        exact ⟨by rw [HW.out]; go_num, rfl⟩
      · have t1 : (s.toList == x.toList) = false := by rw [beq_eq_false_iff_ne, ByteArray.toList_eq, ByteArray.toList_eq]; exact fun h => hx (ba_x h)
        have HNX : Hid (x.data.toList ∉ (S.take (k + 1)).map (·.data.toList)) := Lib.hid (by
          rw [List.take_succ_eq_append_getElem hkl, hs, List.map_append, List.mem_append, not_or]
          refine ⟨HNO.out, ?_⟩
          rw [List.map_cons, List.map_nil, List.mem_singleton]
          exact fun e => hx (ba_x e.symm))
        clear hno hkg hs hx
        go_wp2_with fail
        go_roundg (gk - 1)
        case rel => exact ⟨k + 1, by have := HKG.out; omega, by go_num, rfl, HNX.out⟩
        case measure => have := HKG.out; omega
    · obtain rfl : k = n := by omega
      have HW : Hid (whichN (S.map (·.data.toList)) x.data.toList = 0) := Lib.hid (by
        rw [List.take_of_length_le (by rw [HN.out]; exact Nat.le_refl _)] at hno
        unfold whichN
        rw [if_neg hno])
      have hjj : ¬ ((k : Int) < (k : Int)) := by omega
      clear hno hkg
      go_wp2_with fail
      go_ret
      exact ⟨by rw [HW.out]; rfl, rfl⟩
theorem whichN_no {l : List (List UInt8)} {s : List UInt8} (h : s ∉ l) : whichN l s = 0 := if_neg h
theorem whichN_yes {l : List (List UInt8)} {s : List UInt8} (h : s ∈ l) : whichN l s = l.idxOf s + 1 := if_pos h
theorem rspaces11 (A : Option Addr) (n c : Nat) (l : List At) (w : World) (hr : RdB AtS w A l) (hn : l.length = n) (hna : n ≤ 1000000) :
    Calls Tryz.prog 86 #[.slice A n c] w (NumTo l w) := by
  obtain ⟨i0, hi, hz0, hz1, hz2⟩ := info_parts infoS1
  have HI := Lib.hid hi
  have HZ0 := Lib.hid hz0
  have HZ1 := Lib.hid hz1
  have HZ2 := Lib.hid hz2
  have HR := Lib.hid hr
  have HN := Lib.hid hn
  have bn : (n : Int) ≤ 1000000 := by omega
  clear hi hz0 hz1 hz2 hr hn
  go_enter Tryz.func86, Tryz.ntmps86
  go_wp2_with fail
  go_loopg [3, 4] n (fun gg x3 i wr => ∃ (j : Nat) (S : List ByteArray), j + gg = n ∧ i = .int .i64 j ∧ (∃ A1 c1, x3 = .slice A1 S.length c1) ∧ NuSt l j w.heap.size w S x3 wr)
  case atStart => exact ⟨0, [], by omega, rfl, ⟨none, 0, rfl⟩, ⟨rfl, Nat.le_refl _, World.ownsRow_nil _ _ _ _, Nat.le_refl _, Below.refl _ _⟩⟩
  case round =>
    obtain ⟨j, S, hjg, rfl, ⟨A1, c1, rfl⟩, hst⟩ := hrel
    have HST := Lib.hid hst
    have HVB : Hid (∀ g, (Value.slice A1 S.length c1).ownBlock = some g → w.heap.size ≤ g) := Lib.hid fun g hg => (hst.own.lt g hg).1
    by_cases hlt : j < n
    · obtain ⟨g, rfl⟩ : ∃ g, gk = g + 1 := ⟨gk - 1, by omega⟩
      have HG : Hid (g < g + 1) := Nat.lt_succ_self g
      have hjl : j < l.length := by rw [HN.out]; exact hlt
      obtain ⟨b0, off, x2, y2, z2, hA, hbB, hx, hy, hz, c0, c1', c2⟩ := at_at HR.out hjl
      obtain ⟨a, ha⟩ : ∃ a, l[j]'hjl = a := ⟨_, rfl⟩
      rw [ha] at hx
      have q0 := (hst.below.cell (p := ⟨b0, _, none⟩) hbB).trans c0
      have HTK : Hid (l.take (j + 1) = l.take j ++ [a]) := Lib.hid (by rw [List.take_succ_eq_append_getElem hjl, ha])
      have HXD := Lib.hid hx
      have bj : (0 : Int) ≤ (j : Int) ∧ (j : Int) < (n : Int) := by omega
      have HJG := Lib.hid hjg
      obtain ⟨p1, h1⟩ : ∃ p, decide (x2.data.toList = []) = p := ⟨_, rfl⟩
      obtain ⟨p2, h2⟩ : ∃ p, decide (x2.data.toList = ofXml) = p := ⟨_, rfl⟩
      have f1 := emp_lit x2 p1 h1
      have f2 := eq_lit x2 ofXml p2 h2
      unfold ofXml at f2
      subst hA
      cases p1 with
      | true =>
        have HNX : Hid (NuSt l (j + 1) w.heap.size w S (.slice A1 S.length c1) wr) := Lib.hid (hst.skip HTK.out (.inl (by rw [← hx]; exact of_decide_eq_true h1)) (Below.refl _ _))
        clear hst hx hy hz c0 c1' c2 ha hjl hbB h1 h2 hjg
        go_wp2_with fail
        go_roundg g
        case measure => exact HG.out
        case rel => exact ⟨j + 1, S, by have := HJG.out; omega, by go_num, ⟨_, _, rfl⟩, HNX.out⟩
      | false =>
        cases p2 with
        | true =>
          have HNX : Hid (NuSt l (j + 1) w.heap.size w S (.slice A1 S.length c1) wr) := Lib.hid (hst.skip HTK.out (.inr (.inl (by rw [← hx]; exact of_decide_eq_true h2))) (Below.refl _ _))
          clear hst hx hy hz c0 c1' c2 ha hjl hbB h1 h2 hjg
          go_wp2_with fail
          go_roundg g
          case measure => exact HG.out
          case rel => exact ⟨j + 1, S, by have := HJG.out; omega, by go_num, ⟨_, _, rfl⟩, HNX.out⟩
        | false =>
          have HNE : Hid (a.space ≠ [] ∧ a.space ≠ ofXml) := Lib.hid (by rw [← hx]; exact ⟨of_decide_eq_false h1, of_decide_eq_false h2⟩)
          obtain ⟨r, hr⟩ : ∃ r, whichN (S.map (·.data.toList)) x2.data.toList = r := ⟨_, rfl⟩
          have HC : Hid (Calls Tryz.prog 88 #[.slice A1 S.length c1, .string x2] wr fun e w' => e = .returned (.int .i64 (r : Int)) ∧ w' = wr) := Lib.hid (by rw [← hr]; exact rwhich11 A1 S.length c1 _ S x2 wr hst.own rfl (by have := hst.len; omega))
          by_cases hm : a.space ∈ S.map (·.data.toList)
          · have HNX : Hid (NuSt l (j + 1) w.heap.size w S (.slice A1 S.length c1) wr) := Lib.hid (hst.skip HTK.out (.inr (.inr hm)) (Below.refl _ _))
            have f3 : ((r : Int) == 0) = false := by
              rw [← hr, whichN_yes (by rw [hx]; exact hm), beq_eq_false_iff_ne]
              omega
            clear hst hx hy hz c0 c1' c2 ha hjl hbB h1 h2 hjg hm hr
            go_wp2_with (first
              | (go_at_call 88; (with_reducible refine (HC.out).mono ?_); rintro e2 w2 ⟨rfl, rfl⟩)
              | fail)
            go_roundg g
            case measure => exact HG.out
            case rel => exact ⟨j + 1, S, by have := HJG.out; omega, by go_num, ⟨_, _, rfl⟩, HNX.out⟩
          · have HND : Hid (¬ (a.space = [] ∨ a.space = ofXml ∨ a.space ∈ S.map (·.data.toList))) := Lib.hid (by
              rintro (h | h | h)
              · exact HNE.out.1 h
              · exact HNE.out.2 h
              · exact hm h)
            have f3 : ((r : Int) == 0) = true := by
              rw [← hr, whichN_no (by rw [hx]; exact hm)]
              rfl
            have hbS : (S.length : Int) ≤ 1000000 := by have := hst.len; omega
            clear hst hx hy hz c0 c1' c2 ha hjl hbB h1 h2 hjg hm hr
            go_wp2_with (first
              | (go_at_call 88; (with_reducible refine (HC.out).mono ?_); rintro e2 w2 ⟨rfl, rfl⟩)
              | (at_builtin; refine wpList_append_own_at _ rfl (.tmp 35) (.tmp 41) 76 rfl w.heap.size 9 i0 (.string ⟨#[]⟩) 1 16 Tryz.underlying76 HI.out HZ0.out HZ1.out HZ2.out rfl (by decide) _ S.length _ rfl (own_belowK HST.out.own (stpA (Below.refl w2.heap.size w2) _) (Nat.le_refl _)) ⟨w2.heap.size, 0, none⟩ 1 1 [.string x2] rfl rfl (new_at w2 [.string x2] 9 _ rfl) (by simp [Value.oneCell']) (by have := HST.out.len; unfold maxLen; omega) (by have := HST.out.len; omega) (by have := HST.out.sz; rw [World.size_alloc]; omega) ?_; intro v5 w5 hown5 hgr5 _ _; obtain ⟨A5, c5, rfl⟩ := own_form2 hown5; have HST5 := Lib.hid (HST.out.snoc HTK.out HND.out HXD.out (HST.out.below.trans ((stpA (Below.refl w2.heap.size w2) _).mono HST.out.sz)) (by have := HST.out.sz; rw [World.size_alloc]; omega) HVB.out hown5 hgr5); clear hown5 hgr5)
              | fail)
            go_roundg g
            case measure => exact HG.out
            case rel => exact ⟨j + 1, S ++ [x2], by have := HJG.out; omega, by go_num, ⟨_, _, by rw [List.length_append]; rfl⟩, HST5.out⟩
    · obtain rfl : j = n := by omega
      have hjj : ¬ ((j : Int) < (j : Int)) := by omega
      have hfold := hst.fold
      rw [← HN.out, List.take_length, ← spacesL_fold] at hfold
      have HF := Lib.hid hfold.symm
      clear hst hfold
      go_wp2_with fail
      go_ret
      exact ⟨A1, c1, S, rfl, HF.out, HST.out.own, HST.out.below⟩
end Hx
end Go.Proofs.YteobcohjikjalaaGreatDoor
set_option linter.unusedSimpArgs false
namespace Go.Proofs.YteobcohjikjalaaGreatDoor
open Go.RowKit
namespace Hx
open Lx Tr Tx Nmb Es Ns
set_option linter.unusedVariables false
set_option linter.unusedSimpArgs false
theorem numD_snocs : ∀ (i : Nat) (S : List (List UInt8)) (s : List UInt8), numD i (S ++ [s]) = numD i S ++ [⟨[], xmlns5 ++ 58 :: prefN (i + S.length), s⟩]
  | i, [], s => rfl
  | i, t :: S, s => by
    rw [List.cons_append, numD, numD, numD_snocs (i + 1) S s, List.length_cons, show i + 1 + S.length = i + (S.length + 1) by omega]
    rfl
theorem spacesL_lens : ∀ (l : List At) (acc : List (List UInt8)), (spacesL acc l).length ≤ acc.length + l.length
  | [], acc => Nat.le_refl _
  | a :: l, acc => by
    rw [spacesL, List.length_cons]
    split
    · have := spacesL_lens l acc
      omega
    · have := spacesL_lens l (acc ++ [a.space])
      rw [List.length_append] at this
      simp at this
      omega
theorem rcell1s {P : Program} {fn : Func} {p : Tmp} {ty : TypeId} (h : fn.results = #[.cell p ty]) (tmps : Array Value) (w : World) (g : Nat) (t : TypeId) (cs : Array Value) (fr : Nat × Nat) (d : TypeDesc)
    (hp : tmps.getD p undef = .pointer (some ⟨g, 0, none⟩)) (hg : w.heap[g]? = some (.cells cs t fr))
    (hu : P.underlying ty = some d) (hd : (match d with | .struct _ | .array _ _ => true | _ => false) = true) (hi : (P.info? ty).map (·.size) = some cs.size) :
    (results fn tmps).run P w = .ok (.agg cs) w := by
  have hp' : tmps[p]?.getD undef = .pointer (some ⟨g, 0, none⟩) := by simpa using hp
  simp [results, h, hp', asAddr, run_loadVar_row w g t ty cs fr d hg hu hd hi]

structure BlSt (G : Nat) (y : ByteArray) (many : Int) (W : World) (bl : Nat) (vl : Value) (S : List ByteArray) (L : List AB) (A : Option Addr) (c : Nat) (wr : World) : Prop where
  own : wr.ownsRow (G + 1) 41 3 (.slice A L.length c) L.length (L.flatMap abCells)
  box : wr.heap[G]? = some (.cells #[.int .u8 1, .string ⟨#[]⟩, .string y, .slice A L.length c, .string ⟨#[]⟩, .int .i64 many] 39 (0, 0))
  below : Below G W wr
  str : wr.ownsRow bl 9 1 vl S.length (S.map Value.string)
  far : ∀ g, vl.ownBlock = some g → (Value.slice A L.length c).ownBlock ≠ some g
  bl : G < bl
  gw : G ≤ W.heap.size
variable {G bl : Nat} {y : ByteArray} {many : Int} {W wr w' w8 w9 : World} {vl : Value} {S : List ByteArray} {L : List AB} {A A' : Option Addr} {c c' : Nat}
theorem BlSt.lt (h : BlSt G y many W bl vl S L A c wr) : G < wr.heap.size := lt_heap h.box
theorem BlSt.on (h : BlSt G y many W bl vl S L A c wr) (hb : Below wr.heap.size wr w') : BlSt G y many W bl vl S L A c w' :=
  ⟨own_belowK h.own hb (Nat.le_refl _), kept_heap h.box hb, h.below.trans (hb.mono (Nat.le_of_lt h.lt)), own_belowK h.str hb (Nat.le_refl _), h.far, h.bl, h.gw⟩
theorem BlSt.box9 (h : BlSt G y many W bl vl S L A c wr) (h8 : Below wr.heap.size wr w8) (hgr : w8.grownBy w9 (Value.slice A L.length c).ownBlock) :
    w9.heap[G]? = some (.cells #[.int .u8 1, .string ⟨#[]⟩, .string y, .slice A L.length c, .string ⟨#[]⟩, .int .i64 many] 39 (0, 0)) := by
  have hbk : Below (G + 1) wr w9 := (h8.mono h.lt).grown hgr (by have := h8.size; have := h.lt; omega) (fun g hg => (h.own.lt g hg).1)
  exact (hbk.block G (Nat.lt_succ_self _)).trans h.box
theorem BlSt.push (h : BlSt G y many W bl vl S L A c wr) (b : AB) (h8 : Below wr.heap.size wr w8) (hgr : w8.grownBy w9 (Value.slice A L.length c).ownBlock) (hlie : (Value.slice A' (L.length + 1) c').ownBlock = (Value.slice A L.length c).ownBlock ∨ (Value.slice A' (L.length + 1) c').ownBlock = some w8.heap.size) (hown : w9.ownsRow (G + 1) 41 3 (.slice A' (L.length + 1) c') (L.length + 1) (L.flatMap abCells ++ abCells b)) :
    BlSt G y many W bl vl S (L ++ [b]) A' c' (w9.setCell ⟨G, 3, none⟩ (.slice A' (L.length + 1) c')) := by
  have hlt := h.lt
  have hbk : Below (G + 1) wr w9 := (h8.mono hlt).grown hgr (by have := h8.size; omega) (fun g hg => (h.own.lt g hg).1)
  have hs8 := own_belowK h.str h8 (Nat.le_refl _)
  have hs9 : w9.ownsRow bl 9 1 vl S.length (S.map Value.string) := hs8.kept hgr (by
    cases hv : vl.ownBlock with
    | none => exact .inl rfl
    | some g => exact .inr (fun e => h.far g hv e.symm))
  refine ⟨?_, ?_, h.below.trans ((hbk.mono (Nat.le_succ _)).setCell (p := ⟨G, 3, none⟩) (Nat.le_refl _) _), own_setCell hs9 G 3 h.bl _, ?_, h.bl, h.gw⟩
  · rw [List.length_append, List.flatMap_append, List.flatMap_cons, List.flatMap_nil, List.append_nil]
    exact own_setCell hown G 3 (Nat.lt_succ_self _) _
  · rw [List.length_append]
    simpa using heap_setCell_same w9 G 3 _ _ (.slice A' (L.length + 1) c') (h.box9 h8 hgr)
  · intro g hg
    rw [List.length_append]
    show (Value.slice A' (L.length + 1) c').ownBlock ≠ some g
    rcases hlie with e | e
    · rw [e]; exact h.far g hg
    · rw [e]
      intro e2
      injection e2 with e2
      have := (hs8.lt g hg).2
      omega
theorem BlSt.told (h : BlSt G y many W bl vl S L A c wr) (hb : Below wr.heap.size wr w') {vs : Value} {S' : List ByteArray} (hs : w'.ownsRow wr.heap.size 9 1 vs S'.length (S'.map Value.string)) : BlSt G y many W wr.heap.size vs S' L A c w' := by
  have h2 := h.on hb
  refine ⟨h2.own, h2.box, h2.below, hs, fun g hg e => ?_, h.lt, h.gw⟩
  have h3 := (hs.lt g hg).1
  have h4 := (h.own.lt g e).2
  omega
theorem BlSt.sat (h : BlSt G y many W bl vl S L A c wr) {k : Nat} (hk : k < S.length) : ∃ g cs, vl = .slice (some ⟨g, 0, none⟩) S.length cs ∧ wr.cell? ⟨g, k, none⟩ = some (.string (S[k]'hk)) ∧ G < g ∧ (Value.slice A L.length c).ownBlock ≠ some g ∧ g < wr.heap.size := by
  have h9 := h.str
  rcases h.str.2 with ⟨e, h0⟩ | ⟨g, cap, cur, hv, hb, _⟩
  · omega
  · have hlt := h9.lt g (by rw [hv]; rfl)
    refine ⟨g, cap, hv, ?_, by have := h.bl; omega, h.far g (by rw [hv]; rfl), hlt.2⟩
    have := h9.cells (g := g) (by rw [hv]; rfl) k (.string (S[k]'hk)) (by rw [List.getElem?_map, List.getElem?_eq_getElem hk]; rfl)
    rw [addr_plain, Nat.zero_add] at this
    exact this
def RtoldBTo (outer : List UInt8) (n : Nd) (w : World) (e : Ending) (w' : World) : Prop := ∃ (y : ByteArray) (A : Option Addr) (c : Nat) (L : List AB) (g : Nat), e = .returned (.agg #[.int .u8 1, .string ⟨#[]⟩, .string y, .slice A L.length c, .string ⟨#[]⟩, .int .i64 n.many]) ∧
  bareN outer n = ⟨1, [], y.data.toList, L.map abVal, [], n.many⟩ ∧ w.heap.size ≤ g ∧ w'.ownsRow g 41 3 (.slice A L.length c) L.length (L.flatMap abCells) ∧ Below w.heap.size w w'
end Hx
end Go.Proofs.YteobcohjikjalaaGreatDoor
