/-
  Texts of one seat, put together: SpaJ, SpaK, SpaL, SpaH, TreT.
-/
import Derived.Test.YtlhjcdkkmloamaaGreatDoorSp12
import Derived.Deep.LoopGhost
import Derived.WalkMore
import Derived.Test.YtlhjcdkkmloamaaGreatDoorShelf
import Derived.Test.YtlhjcdkkmloamaaGreatDoorSp11
import Derived.Lib.ItoaMem
import Derived.Lib.AppendIntMem
import Derived.Test.YtlhjcdkkmloamaaGreatDoorSp09
set_option linter.unusedSimpArgs false
namespace Go.Proofs.YtlhjcdkkmloamaaGreatDoor
open Go.RowKit
namespace Hx
open Lx Tr Tx Nmb Es Ns
set_option maxRecDepth 100000
set_option maxHeartbeats 16000000
set_option linter.unusedVariables false
theorem infoS1 : (Tryz.prog.info? 9).map (fun i => (i.zero, i.size, i.bytes)) = some (some (.string ⟨#[]⟩), 1, 16) := by kernel_rfl
def stepS (acc : List (List UInt8)) (a : At) : List (List UInt8) := if a.space = [] ∨ a.space = ofXml ∨ a.space ∈ acc then acc else acc ++ [a.space]
theorem spacesL_fold : ∀ (l : List At) (acc : List (List UInt8)), spacesL acc l = l.foldl stepS acc
  | [], acc => rfl
  | a :: l, acc => by
    rw [spacesL, List.foldl_cons]
    unfold stepS
    split <;> rw [spacesL_fold l]
    · rfl
    · rfl
structure NuSt (l : List At) (j : Nat) (base : Nat) (w : World) (S : List ByteArray) (V : Value) (wr : World) : Prop where
  fold : (l.take j).foldl stepS [] = S.map (·.data.toList)
  len : S.length ≤ j
  own : wr.ownsRow base 9 1 V S.length (S.map Value.string)
  sz : base ≤ wr.heap.size
  below : Below base w wr
theorem NuSt.skip {l : List At} {j base : Nat} {w : World} {S : List ByteArray} {V : Value} {wr : World} (h : NuSt l j base w S V wr) {a : At} (ha : l.take (j + 1) = l.take j ++ [a]) (hd : a.space = [] ∨ a.space = ofXml ∨ a.space ∈ S.map (·.data.toList)) {w' : World} (hb : Below wr.heap.size wr w') : NuSt l (j + 1) base w S V w' := by
  refine ⟨?_, Nat.le_succ_of_le h.len, own_belowK h.own hb (Nat.le_refl _), Nat.le_trans h.sz hb.size, h.below.trans (hb.mono h.sz)⟩
  rw [ha, List.foldl_append, h.fold]
  show stepS _ a = _
  unfold stepS
  rw [if_pos hd]
theorem NuSt.snoc {l : List At} {j base : Nat} {w : World} {S : List ByteArray} {V : Value} {wr : World} (h : NuSt l j base w S V wr) {a : At} (ha : l.take (j + 1) = l.take j ++ [a]) (hd : ¬ (a.space = [] ∨ a.space = ofXml ∨ a.space ∈ S.map (·.data.toList))) {x : ByteArray} (hx : x.data.toList = a.space) {w4 w5 : World} {V5 : Value}
    (h4 : Below base w w4) (hz4 : base ≤ w4.heap.size) (hV : ∀ g, V.ownBlock = some g → base ≤ g) (hown : w5.ownsRow base 9 1 V5 (S.length + 1) (S.map Value.string ++ [.string x])) (hgr : w4.grownBy w5 V.ownBlock) : NuSt l (j + 1) base w (S ++ [x]) V5 w5 := by
  refine ⟨?_, by rw [List.length_append]; exact Nat.succ_le_succ h.len, ?_, Nat.le_trans hz4 hgr.size, h4.grown hgr hz4 hV⟩
  · rw [ha, List.foldl_append, h.fold]
    show stepS _ a = _
    unfold stepS
    rw [if_neg hd, List.map_append, List.map_cons, List.map_nil, hx]
  · rw [List.length_append, List.map_append]
    exact hown
theorem nu_at {w : World} {base n c : Nat} {A : Option Addr} {S : List ByteArray} (h : w.ownsRow base 9 1 (.slice A n c) n (S.map Value.string)) (hn : S.length = n) {k : Nat} (hk : k < n) :
    ∃ g off, A = some ⟨g, off, none⟩ ∧ w.cell? ⟨g, off + k, none⟩ = some (.string (S[k]'(by omega))) := by
  rcases h.2 with ⟨e1, h0⟩ | ⟨g, cap, cur, hv, hb, hg, hnc, hcm, _, _⟩
  · injection e1 with e1 e2 e3
    omega
  · injection hv with e1 e2 e3
    subst e1 e3
    refine ⟨g, 0, rfl, ?_⟩
    have := h.cells (g := g) rfl k (.string (S[k]'(by omega))) (by rw [List.getElem?_map, List.getElem?_eq_getElem (by omega)]; rfl)
    rw [addr_plain] at this
    exact this
def NumTo (l : List At) (w : World) (e : Ending) (w' : World) : Prop := ∃ (A : Option Addr) (c : Nat) (S : List ByteArray), e = .returned (.slice A S.length c) ∧ S.map (·.data.toList) = spacesL [] l ∧ w'.ownsRow w.heap.size 9 1 (.slice A S.length c) S.length (S.map Value.string) ∧ Below w.heap.size w w'
theorem numbered11 (A : Option Addr) (n c : Nat) (l : List At) (w : World) (hr : RdB AtS w A l) (hn : l.length = n) (hna : n ≤ 1000000) :
    Calls Tryz.prog 61 #[.slice A n c] w (NumTo l w) := by
  obtain ⟨i0, hi, hz0, hz1, hz2⟩ := info_parts infoS1
  have HI := Lib.hid hi
  have HZ0 := Lib.hid hz0
  have HZ1 := Lib.hid hz1
  have HZ2 := Lib.hid hz2
  have HR := Lib.hid hr
  have HN := Lib.hid hn
  have bn : (n : Int) ≤ 1000000 := by omega
  clear hi hz0 hz1 hz2 hr hn
  go_enter Tryz.func61, Tryz.ntmps61
  go_wp2_with fail
  go_step3
  go_wp2_with fail
  go_step3
  go_wp2_with fail
  go_loopg [3, 10] n (fun gg x3 i wr => ∃ (j : Nat) (S : List ByteArray), j + gg = n ∧ i = .int .i64 j ∧ (∃ A1 c1, x3 = .slice A1 S.length c1) ∧ NuSt l j w.heap.size w S x3 wr)
  case atStart => exact ⟨0, [], by omega, rfl, ⟨none, 0, rfl⟩, ⟨rfl, Nat.le_refl _, World.ownsRow_nil _ _ _ _, Nat.le_refl _, Below.refl _ _⟩⟩
  case round =>
    obtain ⟨j, S, hjg, rfl, ⟨A1, c1, rfl⟩, hst⟩ := hrel
    have HST := Lib.hid hst
    have HVB : Hid (∀ g, (Value.slice A1 S.length c1).ownBlock = some g → w.heap.size ≤ g) := Lib.hid fun g hg => (hst.own.lt g hg).1
    by_cases hlt : j < n
    · obtain ⟨g, rfl⟩ : ∃ g, gk = g + 1 := ⟨gk - 1, by omega⟩
      have HG : Hid (g < g + 1) := Nat.lt_succ_self g
      have hjl : j < l.length := by rw [HN.out]; exact hlt
      obtain ⟨b0, off, x2, y2, z2, hA, hbB, hx, hy, hz, c0, c1', c2⟩ := at_at HR.out hjl
      obtain ⟨a, ha⟩ : ∃ a, l[j]'hjl = a := ⟨_, rfl⟩
      rw [ha] at hx
      have q0 := (hst.below.cell (p := ⟨b0, _, none⟩) hbB).trans c0
      have q1 := (hst.below.cell (p := ⟨b0, _, none⟩) hbB).trans c1'
      have q2 := (hst.below.cell (p := ⟨b0, _, none⟩) hbB).trans c2
      have HTK : Hid (l.take (j + 1) = l.take j ++ [a]) := Lib.hid (by rw [List.take_succ_eq_append_getElem hjl, ha])
      have HXD := Lib.hid hx
      have bj : (0 : Int) ≤ (j : Int) ∧ (j : Int) < (n : Int) := by omega
      have HJG := Lib.hid hjg
      obtain ⟨wo, rfl⟩ : ∃ wo : World, wo = wr := ⟨_, rfl⟩
      obtain ⟨W1, hW1⟩ : ∃ W1, wo.alloc (.cells #[.string x2, .string y2, .string z2] 34) = W1 := ⟨_, rfl⟩
      have HB1 : Hid (Below wo.heap.size wo W1) := Lib.hid (by rw [← hW1]; exact stpA (Below.refl _ _) _)
      have HX1 : Hid (W1.heap[wo.heap.size]? = some (.cells #[.string x2, .string y2, .string z2] 34 (0, 0))) := Lib.hid (by rw [← hW1]; exact heap_alloc_new wo _)
      have k0 := cellV W1 _ 0 _ _ _ HX1.out
      obtain ⟨p1, h1⟩ : ∃ p, decide (x2.data.toList = []) = p := ⟨_, rfl⟩
      obtain ⟨p2, h2⟩ : ∃ p, decide (x2.data.toList = ofXml) = p := ⟨_, rfl⟩
      have f1 := emp_lit x2 p1 h1
      have f2 := eq_lit x2 ofXml p2 h2
      unfold ofXml at f2
      subst hA
      cases p1 with
      | true =>
        have HNX : Hid (NuSt l (j + 1) w.heap.size w S (.slice A1 S.length c1) W1) := Lib.hid (hst.skip HTK.out (.inl (by rw [← hx]; exact of_decide_eq_true h1)) HB1.out)
        clear hst hx hy hz c0 c1' c2 ha hjl hbB h1 h2 hjg
        go_wp2_with (first
          | (refine wpList_store_row rfl _ _ _ rfl wo.heap.size #[.string x2, .string y2, .string z2] rfl rfl 34 #[.string ⟨#[]⟩, .string ⟨#[]⟩, .string ⟨#[]⟩] (heap_alloc_new _ _) sizeAt rfl (by simp [Value.oneCell']) ?_; rw [World.setRow_alloc_new, hW1])
          | fail)
        go_roundg g
        case measure => exact HG.out
        case rel => exact ⟨j + 1, S, by have := HJG.out; omega, by go_num, ⟨_, _, rfl⟩, HNX.out⟩
      | false =>
        cases p2 with
        | true =>
          have HNX : Hid (NuSt l (j + 1) w.heap.size w S (.slice A1 S.length c1) W1) := Lib.hid (hst.skip HTK.out (.inr (.inl (by rw [← hx]; exact of_decide_eq_true h2))) HB1.out)
          clear hst hx hy hz c0 c1' c2 ha hjl hbB h1 h2 hjg
          go_wp2_with (first
            | (refine wpList_store_row rfl _ _ _ rfl wo.heap.size #[.string x2, .string y2, .string z2] rfl rfl 34 #[.string ⟨#[]⟩, .string ⟨#[]⟩, .string ⟨#[]⟩] (heap_alloc_new _ _) sizeAt rfl (by simp [Value.oneCell']) ?_; rw [World.setRow_alloc_new, hW1])
            | fail)
          go_roundg g
          case measure => exact HG.out
          case rel => exact ⟨j + 1, S, by have := HJG.out; omega, by go_num, ⟨_, _, rfl⟩, HNX.out⟩
        | false =>
          have HNE : Hid (a.space ≠ [] ∧ a.space ≠ ofXml) := Lib.hid (by rw [← hx]; exact ⟨of_decide_eq_false h1, of_decide_eq_false h2⟩)
          have HSK : Hid (a.space ∈ S.map (·.data.toList) → NuSt l (j + 1) w.heap.size w S (.slice A1 S.length c1) W1) := Lib.hid fun hm => hst.skip HTK.out (.inr (.inr hm)) HB1.out
          have hbS : (S.length : Int) ≤ 1000000 := by have := hst.len; omega
          clear hst hx hy hz c0 c1' c2 ha hjl hbB h1 h2 hjg
          go_wp2_with (first
            | (refine wpList_store_row rfl _ _ _ rfl wo.heap.size #[.string x2, .string y2, .string z2] rfl rfl 34 #[.string ⟨#[]⟩, .string ⟨#[]⟩, .string ⟨#[]⟩] (heap_alloc_new _ _) sizeAt rfl (by simp [Value.oneCell']) ?_; rw [World.setRow_alloc_new, hW1])
            | fail)
          go_loopg [24] S.length (fun gg i wr => ∃ k : Nat, k + gg = S.length ∧ i = .int .i64 k ∧ wr = W1 ∧ a.space ∉ (S.take k).map (·.data.toList))
          case atStart => exact ⟨0, by omega, rfl, rfl, by simp⟩
          case round =>
            obtain ⟨k, hkg, rfl, rfl, hno⟩ := hrel
            by_cases hlk : k < S.length
            · obtain ⟨gs, offs, hA2, hcs⟩ := nu_at (own_belowK HST.out.own HB1.out (Nat.le_refl _)) rfl hlk
              obtain ⟨s, hs⟩ : ∃ s, S[k]'hlk = s := ⟨_, rfl⟩
              rw [hs] at hcs
              obtain ⟨qs, hqs⟩ : ∃ q, decide (s.data.toList = x2.data.toList) = q := ⟨_, rfl⟩
              have f3 := eq_two s x2 qs hqs
              have bk : (0 : Int) ≤ (k : Int) ∧ (k : Int) < (S.length : Int) := by omega
              cases qs with
              | true =>
                have HNX := Lib.hid (HSK.out (by rw [← HXD.out, ← of_decide_eq_true hqs, ← hs]; exact List.mem_map.2 ⟨_, List.getElem_mem hlk, rfl⟩))
                subst hA2
                clear hno hs hqs hkg HSK HST
                go_wp2_with fail
                go_roundg g
                case measure => exact HG.out
                case rel => exact ⟨j + 1, S, by have := HJG.out; omega, by go_num, ⟨_, _, rfl⟩, HNX.out⟩
              | false =>
                have HNO : Hid (a.space ∉ (S.take (k + 1)).map (·.data.toList)) := Lib.hid (by
                  rw [List.take_succ_eq_append_getElem hlk, List.map_append, List.mem_append, hs]
                  rintro (h | h)
                  · exact hno h
                  · rw [List.map_cons, List.map_nil, List.mem_singleton, ← HXD.out] at h
                    exact absurd h.symm (of_decide_eq_false hqs))
                have HKG := Lib.hid hkg
                subst hA2
                clear hno hs hqs hkg
                go_wp2_with fail
                go_roundg (gk - 1)
                case measure => have := HKG.out; omega
                case rel => exact ⟨k + 1, by have := HKG.out; omega, by go_num, rfl, HNO.out⟩
            · obtain rfl : k = S.length := by omega
              have hjj : ¬ ((S.length : Int) < (S.length : Int)) := by omega
              have HND : Hid (¬ (a.space = [] ∨ a.space = ofXml ∨ a.space ∈ S.map (·.data.toList))) := Lib.hid (by
                rw [List.take_length] at hno
                rintro (h | h | h)
                · exact HNE.out.1 h
                · exact HNE.out.2 h
                · exact hno h)
              clear hno hkg HSK
              go_wp2_with (first
                | (at_builtin; refine wpList_append_own_at _ rfl (.tmp 33) (.tmp 36) 92 rfl w.heap.size 9 i0 (.string ⟨#[]⟩) 1 16 Tryz.underlying92 HI.out HZ0.out HZ1.out HZ2.out rfl (by decide) _ S.length _ rfl (own_belowK HST.out.own (stpA HB1.out _) (Nat.le_refl _)) ⟨wr.heap.size, 0, none⟩ 1 1 [.string x2] rfl rfl (new_at wr [.string x2] 9 _ rfl) (by simp [Value.oneCell']) (by have := HST.out.len; unfold maxLen; omega) (by have := HST.out.len; omega) (by have := HST.out.sz; have := HB1.out.size; rw [World.size_alloc]; omega) ?_; intro v5 w5 hown5 hgr5 _ _; obtain ⟨A5, c5, rfl⟩ := own_form2 hown5; have HST5 := Lib.hid (HST.out.snoc HTK.out HND.out HXD.out (HST.out.below.trans ((stpA HB1.out _).mono HST.out.sz)) (by have := HST.out.sz; have := HB1.out.size; rw [World.size_alloc]; omega) HVB.out hown5 hgr5); clear hown5 hgr5)
                | fail)
              go_roundg g
              case measure => exact HG.out
              case rel => exact ⟨j + 1, S ++ [x2], by have := HJG.out; omega, by go_num, ⟨_, _, by rw [List.length_append]; rfl⟩, HST5.out⟩
    · obtain rfl : j = n := by omega
      have hjj : ¬ ((j : Int) < (j : Int)) := by omega
      have hfold := hst.fold
      rw [← HN.out, List.take_length, ← spacesL_fold] at hfold
      have HF := Lib.hid hfold.symm
      clear hst hfold
      go_wp2_with fail
      try rw [Exit.noGoto_ret]
      go_ret
      exact ⟨A1, c1, S, rfl, HF.out, HST.out.own, HST.out.below⟩
end Hx
end Go.Proofs.YtlhjcdkkmloamaaGreatDoor
namespace Go.Proofs.YtlhjcdkkmloamaaGreatDoor
open Go.RowKit
namespace Hx
open Lx Tr Tx Nmb Es Ns
set_option linter.unusedVariables false
theorem ba_inj {x y : ByteArray} (h : x.data.toList = y.data.toList) : x = y := ByteArray.ext (Array.ext' h)
theorem getD_at (S : List ByteArray) (j : Nat) (h : j < S.length) : S.getD j ByteArray.empty = S[j] := by
  rw [List.getD_eq_getElem?_getD, List.getElem?_eq_getElem h]
  rfl
theorem idx11 (A : Option Addr) (n c base : Nat) (S : List ByteArray) (w : World) (h : w.ownsRow base 9 1 (.slice A n c) n (S.map Value.string)) (hn : S.length = n) (hb : n ≤ 1000000) (x : ByteArray) (k : Nat) (hm : x.data.toList ∈ S.map (·.data.toList)) (hk : (S.map (·.data.toList)).idxOf x.data.toList = k) :
    Calls Tryz.prog 63 #[.slice A n c, .string x] w fun e w' => e = .returned (.int .i64 (k : Int)) ∧ Below w.heap.size w w' := by
  have hlt : k < S.length := by
    have := List.idxOf_lt_length_of_mem hm
    rw [hk, List.length_map] at this
    exact this
  have hkn : k < n := by rw [← hn]; exact hlt
  obtain ⟨g, off, rfl, _⟩ := nu_at h hn hkn
  have hc : ∀ j, j < S.length → w.cell? ⟨g, off + j, none⟩ = some (.string (S.getD j ByteArray.empty)) := fun j hj => by
    obtain ⟨g2, off2, e, h2⟩ := nu_at h hn (k := j) (by omega)
    injection e with e
    injection e with e1 e2
    subst e1 e2
    rw [h2, getD_at S j hj]
  have hi : Lib.idxOfS (S.take n) x = (k : Int) := by
    refine Lib.idxOfS_hit S n k x hkn (by omega) ?_ fun j hj => ?_
    · rw [getD_at S k hlt]
      apply ba_inj
      have := List.getElem_idxOf (x := x.data.toList) (xs := S.map (·.data.toList)) (by rw [hk, List.length_map]; exact hlt)
      simp only [hk, List.getElem_map] at this
      exact this
    · rw [getD_at S j (by omega)]
      intro e
      have hj2 : j < (S.map (·.data.toList)).findIdx (· == x.data.toList) := by
        have : (S.map (·.data.toList)).findIdx (· == x.data.toList) = k := hk
        rw [this]
        exact hj
      have := List.not_of_lt_findIdx hj2
      rw [List.getElem_map, e] at this
      simp at this
  refine (Tryz.slices_Index_string g off n c S x w (by omega) (by omega) hc).mono fun e w' h3 => ?_
  obtain ⟨h3, rfl⟩ := h3
  exact ⟨by rw [h3, hi], Below.refl _ _⟩
theorem numD_snoc : ∀ (i : Nat) (S : List (List UInt8)) (s : List UInt8), numD i (S ++ [s]) = numD i S ++ [⟨[], xmlns5 ++ 58 :: prefN (i + S.length), s⟩]
  | i, [], s => rfl
  | i, t :: S, s => by
    rw [List.cons_append, numD, numD, numD_snoc (i + 1) S s, List.length_cons, show i + 1 + S.length = i + (S.length + 1) by omega]
    rfl
theorem spacesL_len : ∀ (l : List At) (acc : List (List UInt8)), (spacesL acc l).length ≤ acc.length + l.length
  | [], acc => Nat.le_refl _
  | a :: l, acc => by
    rw [spacesL, List.length_cons]
    split
    · have := spacesL_len l acc
      omega
    · have := spacesL_len l (acc ++ [a.space])
      rw [List.length_append] at this
      simp at this
      omega
structure BaSt (base bS : Nat) (w : World) (L : List AB) (V : Value) (S : List ByteArray) (VS : Value) (wr : World) : Prop where
  own : wr.ownsRow base 34 3 V L.length (L.flatMap abCells)
  sp : wr.ownsRow bS 9 1 VS S.length (S.map Value.string)
  ne : ∀ g, V.ownBlock = some g → VS.ownBlock ≠ some g
  sz : base ≤ wr.heap.size
  below : Below base w wr
theorem BaSt.on {base bS : Nat} {w : World} {L : List AB} {V : Value} {S : List ByteArray} {VS : Value} {wr w' : World} (h : BaSt base bS w L V S VS wr) (hb : Below wr.heap.size wr w') : BaSt base bS w L V S VS w' :=
  ⟨own_belowK h.own hb (Nat.le_refl _), own_belowK h.sp hb (Nat.le_refl _), h.ne, Nat.le_trans h.sz hb.size, h.below.trans (hb.mono h.sz)⟩
theorem BaSt.snoc {base bS : Nat} {w : World} {L : List AB} {V : Value} {S : List ByteArray} {VS : Value} {wr w4 w5 : World} {V5 : Value} (h : BaSt base bS w L V S VS wr) (h4 : Below wr.heap.size wr w4) (b : AB)
    (hown : w5.ownsRow base 34 3 V5 (L.length + 1) (L.flatMap abCells ++ abCells b)) (hgr : w4.grownBy w5 V.ownBlock) (hat : V5.ownBlock = V.ownBlock ∨ V5.ownBlock = some w4.heap.size) : BaSt base bS w (L ++ [b]) V5 S VS w5 := by
  have h' := h.on h4
  refine ⟨?_, ?_, fun g hg => ?_, Nat.le_trans h'.sz hgr.size, h'.below.grown hgr h'.sz fun g hg => (h'.own.lt g hg).1⟩
  · rw [List.length_append, List.flatMap_append, List.flatMap_cons, List.flatMap_nil, List.append_nil]
    exact hown
  · refine h'.sp.kept hgr ?_
    cases hv : VS.ownBlock with
    | none => exact .inl rfl
    | some g => exact .inr fun e => h'.ne g e.symm hv
  · rcases hat with e | e
    · exact h'.ne g (e.symm.trans hg)
    · intro hs
      rw [e] at hg
      injection hg with hg
      have := (h'.sp.lt g hs).2
      omega
theorem BaSt.len {base bS : Nat} {w : World} {L : List AB} {V : Value} {S : List ByteArray} {VS : Value} {wr : World} (h : BaSt base bS w L V S VS wr) : ∃ A c, V = .slice A L.length c := by
  rcases h.own.2 with ⟨rfl, h0⟩ | ⟨g, cap, cur, rfl, _⟩
  · exact ⟨none, 0, by rw [h0]⟩
  · exact ⟨_, cap, rfl⟩
end Hx
end Go.Proofs.YtlhjcdkkmloamaaGreatDoor
namespace Go.Proofs.YtlhjcdkkmloamaaGreatDoor
open Go.RowKit
namespace Hx
open Lx Tr Tx Nmb Es Ns
set_option maxRecDepth 100000
set_option maxHeartbeats 16000000
set_option linter.unusedVariables false
theorem dg_len_to : ∀ (d n : Nat), n < 10 ^ (d + 1) → (dg n).length ≤ d + 1
  | 0, n, h => by rw [dg_small (by simpa using h)]; simp
  | d + 1, n, h => by
    by_cases h1 : n < 10
    · rw [dg_small h1]; simp
    · rw [dg_more (by omega), List.length_append]
      have := dg_len_to d (n / 10) (by rw [Nat.pow_succ] at h; omega)
      simp
      omega
def TbH (w : World) : Prop := Lib.TabIs Tryz.prog w "internal/strconv.uint64pow10" .u64 Lib.pow10Tab

theorem TbH.to {w w' : World} (h : TbH w) (hb : Below w.heap.size w w') : TbH w' := (Lib.tabBelow_of_tabIs h) w' hb
theorem dec_dgH (u : Nat) : Lib.decDigits u = dg u := by
  induction u using Nat.strongRecOn with
  | ind u ih =>
    rw [Lib.decDigits]
    by_cases h : u < 10
    · rw [dif_pos h, dg_small h]; rfl
    · rw [dif_neg h, dg_more (by omega), ih (u / 10) (by omega)]; rfl
theorem itoaH (k : Nat) (hk : k ≤ 9007199254740991) (t : ByteArray) (ht : t = ⟨(dg k).toArray⟩) (w : World) (hT : TbH w) :
    Calls Tryz.prog 79 #[.int .i64 k] w fun e w' => e = .returned (.string t) ∧ Below w.heap.size w w' := by
  refine (Tryz.strconv_Itoa (k : Int) (by omega) (by omega) w hT).mono fun e w' h => ?_
  obtain ⟨h1, j, os, h2⟩ := h
  refine ⟨?_, by rw [h2]; exact Lib.below_grow _ w (Nat.le_refl _) j os⟩
  rw [h1, Lib.itoa_nonneg, dec_dgH, ht]
theorem prefix11 (k : Nat) (hk : k ≤ 1000000) (t : ByteArray) (ht : t.data.toList = prefN k) (w : World) (hT : TbH w) :
    Calls Tryz.prog 62 #[.int .i64 k] w fun e w' => e = .returned (.string t) ∧ Below w.heap.size w w' := by
  obtain ⟨s, hs⟩ : ∃ s : ByteArray, s = ⟨(dg (k + 1)).toArray⟩ := ⟨_, rfl⟩
  have hsz : s.size ≤ 7 := by
    rw [hs]
    show (dg (k + 1)).toArray.size ≤ 7
    rw [List.size_toArray]
    exact dg_len_to 6 (k + 1) (by omega)
  have l1 : ¬ 9223372036854775807 < 1 + s.size := by omega
  have HT2 : Hid ((⟨#[110]⟩ : ByteArray) ++ s = t) := Lib.hid (by
    apply ByteArray.ext
    apply Array.ext'
    rw [ht, hs]
    simp [prefN])
  have HC : Hid (Calls Tryz.prog 79 #[.int .i64 ((k : Int) + 1)] w fun e w' => e = .returned (.string s) ∧ Below w.heap.size w w') := Lib.hid (by
    have := itoaH (k + 1) (by omega) s hs w hT
    rwa [show (((k + 1 : Nat)) : Int) = (k : Int) + 1 by omega] at this)
  have bk : (0 : Int) ≤ (k : Int) ∧ (k : Int) ≤ 1000000 := by omega
  clear hT ht hs hsz
  go_enter Tryz.func62, Tryz.ntmps62
  go_wp2_with (first
    | (go_at_call 79; (with_reducible refine HC.out.mono ?_); rintro e w2 ⟨rfl, hb2⟩; have HB2 := Lib.hid hb2; clear hb2)
    | fail)
  go_ret
  rw [← HT2.out]
  exact ⟨rfl, HB2.out⟩
end Hx
end Go.Proofs.YtlhjcdkkmloamaaGreatDoor
namespace Go.Proofs.YtlhjcdkkmloamaaGreatDoor
open Go.RowKit
namespace Hx
open Lx Tr Tx Nmb Es
set_option linter.unusedVariables false
theorem infoNdS : (Tryz.prog.info? 32).map (·.size) = some 6 := by kernel_rfl
theorem nd_ones (k : Int) (x y z : ByteArray) (A : Option Addr) (n c : Nat) (m : Int) : ∀ v ∈ [Value.int .u8 k, .string x, .string y, .slice A n c, .string z, .int .i64 m], v.oneCell' = true := by simp [Value.oneCell']
theorem twin_fin {lo : Nat} {w wr w2 w5 : World} {L : List NB} {v v5 : Value} {n : Nd} {x y z : ByteArray} {A3 : Option Addr} {c3 : Nat} (h : NdSt lo w L v wr) (hb : Below wr.heap.size wr w2) (hlo : lo ≤ w.heap.size)
    (hx : x.data.toList = n.space) (hy : y.data.toList = n.name) (hz : z.data.toList = n.text) (hkd : n.kind < 256) (hlo2 : -9223372036854775808 ≤ n.many) (hhi : n.many ≤ 9223372036854775807)
    (ho3 : w2.ownsRow (wr.heap.size + 1) 34 3 (.slice A3 n.attrs.length c3) n.attrs.length ((n.attrs.map abOf).flatMap abCells))
    (hown : w5.ownsRow w.heap.size 32 6 v5 (L.length + 1) (L.flatMap nbCells ++ [.int .u8 (n.kind : Int), .string x, .string y, .slice A3 n.attrs.length c3, .string z, .int .i64 n.many]))
    (hgr : w2.grownBy w5 v.ownBlock) (hlie : v5.ownBlock = v.ownBlock ∨ v5.ownBlock = some w2.heap.size) : NdSt lo w (L ++ [⟨n, x, y, z, A3, c3⟩]) v5 w5 := by
  have hw := h.2.2.size
  obtain ⟨r1, r2, r3, r4, r5⟩ := ats_own (lo := lo) (w0 := w) (row := v.ownBlock) ho3 (by omega) (fun k hk => by have := (h.1.lt k hk).2; omega)
  refine h.more hb (M := [⟨n, x, y, z, A3, c3⟩]) (fun b hm => ?_) ?_ hgr hlie
  · rw [List.mem_singleton] at hm
    subst hm
    exact ⟨hx, hy, hz, r1, r3, r4, r5, hkd, hlo2, hhi⟩
  · simpa [nbCells, ndCells] using hown
def TwinTo (v : List Nd) (w : World) (e : Ending) (w' : World) : Prop := ∃ A c, e = .returned (.slice A v.length c) ∧ NdOut w.heap.size w v A c w' ∧ Below w.heap.size w w'
end Hx
end Go.Proofs.YtlhjcdkkmloamaaGreatDoor
