/-
  The contract of ascii.List.
-/
import Derived.Test.YtncklfmpnbdmcaaAscG
import Derived.Sort.CutIn
namespace Go.Proofs.Ytncklfmpnbdmcaa
open Go.RowKit Go.Shelf
namespace Hx
open As
set_option linter.unusedVariables false
attribute [local go_sem] Oper.semAt_some
theorem pts_of : ∀ (L : List (List UInt8)), (∀ p ∈ L, p.length ≤ 1000000) → ∃ xs : List Pt, xs.map (fun x => x.1.data.toList) = L
  | [], _ => ⟨[], rfl⟩
  | p :: L, h => by
    obtain ⟨xs, hx⟩ := pts_of L (fun q hq => h q (List.mem_cons_of_mem _ hq))
    exact ⟨⟨mkB p, h p (List.mem_cons_self ..)⟩ :: xs, by rw [List.map_cons, hx]; rfl⟩
theorem cutT_len (l : List UInt8) : ∀ p ∈ cutT l, p.length ≤ l.length := by
  intro p hp
  unfold cutT at hp
  rw [List.mem_flatMap] at hp
  obtain ⟨q, hq, hpq⟩ := hp
  unfold oneT at hpq
  split at hpq
  · simp at hpq
  · rw [List.mem_singleton] at hpq
    rw [hpq]
    exact Nat.le_trans (trim_len q) (cut_mem l q hq)
def lowP (x : Pt) : ByteArray := lowS x.1
def tokP (x : Pt) : Bool := isTok x.1.data.toList
theorem parts_pts {s : ByteArray} {xs : List Pt} (h : xs.map (fun x => x.1.data.toList) = cutT s.data.toList) : parts s.data.toList = xs.map (fun x => lows x.1.data.toList) := by
  rw [← cutT_low, ← h, List.map_map]
  rfl
theorem parts_len {s : ByteArray} {xs : List Pt} (h : xs.map (fun x => x.1.data.toList) = cutT s.data.toList) : (parts s.data.toList).length = xs.length := by rw [parts_pts h, List.length_map]
theorem parts_tok7 {s : ByteArray} {xs : List Pt} (h : xs.map (fun x => x.1.data.toList) = cutT s.data.toList) : (parts s.data.toList).all isTok = xs.all tokP := by
  rw [parts_pts h, List.all_map]
  congr 1
  funext x
  exact tok_lows _
theorem listE_many {s : ByteArray} {xs : List Pt} (h : xs.map (fun x => x.1.data.toList) = cutT s.data.toList) (hn : 16 < xs.length) : listE s.data.toList = 4 := by
  unfold listE
  rw [parts_len h, if_pos hn]
theorem listE_bad {s : ByteArray} {xs : List Pt} (h : xs.map (fun x => x.1.data.toList) = cutT s.data.toList) (hn : xs.length ≤ 16) (ht : xs.all tokP = false) : listE s.data.toList = 8 := by
  unfold listE
  rw [parts_len h, if_neg (by omega), parts_tok7 h, ht]
  rfl
theorem listE_good {s : ByteArray} {xs : List Pt} (h : xs.map (fun x => x.1.data.toList) = cutT s.data.toList) (hn : xs.length ≤ 16) (ht : xs.all tokP = true) : listE s.data.toList = 0 ∧ listS s = xs.map lowP := by
  have e : listE s.data.toList = 0 := by
    unfold listE
    rw [parts_len h, if_neg (by omega), parts_tok7 h, ht]
    rfl
  refine ⟨e, ?_⟩
  rw [listS_map s e, parts_pts h, List.map_map]
  rfl
theorem ends7 (tmps : Array Value) (V : World) (g2 g3 : Nat) {v : Value} {m : Int} (h2 : Boxed V g2 TS v) (h3 : Boxed V g3 TE (.int .i64 m))
    (p2 : tmps.getD 2 undef = .pointer (some ⟨g2, 0, none⟩)) (p3 : tmps.getD 3 undef = .pointer (some ⟨g3, 0, none⟩)) :
    (results Try.f8 tmps).run Try.prog V = .ok (.tuple #[v, .int .i64 m]) V := by
  have d2 := h2.cell
  have d3 := h3.cell
  simp only [Array.getD_eq_getD_getElem?] at p2 p3
  simp [results, Try.results8, go_sem, p2, p3, asAddr, d2, d3]
theorem below_of_drew7 {W w : World} (h : Below W.drew.heap.size W.drew w) : Below W.heap.size W w := ⟨h.os, h.tape, h.output, h.size, h.block⟩
/-- A round's end. -/
theorem body_end7 {w W W4 w5 V : World} {v : Value} {nb : Bool} {ls ls' : List ByteArray} {len : Nat} (hk : KeepsOthers W W4) (ht : KpT W W4) (hb : Below W4.heap.size W4 w5) (hk7 : KeepsOthers w5 V) (ht7 : KpT w5 V) (hl : LI w v nb ls V) (hls : ls = ls') (hn : len ≤ 16) {nb' : Bool} (hnb : nb = nb') :
    KeepsOthers W V ∧ KpT W V ∧ len ≤ 16 ∧ ∃ v, LI w v nb' ls' V := by
  subst hls hnb
  exact ⟨(hk.trans (keeps_below7 hb)).trans hk7, (ht.trans (KpT.below hb)).trans ht7, hn, v, hl⟩
theorem box_put {W : World} {B D : Nat} {t : TypeId} {v : Value} {o' : Obj} (h : Boxed W B t v) (hk : W.heap[D]? = some (.deferred (some []))) : Boxed (W.putObj D o') B t v := by
  refine h.kept (grownBy_putObj' W D o') ?_
  intro e
  cases e
  rw [show W.heap[B]? = _ from h] at hk
  cases hk
theorem own_box {W : World} {base B : Nat} {t e : TypeId} {u v : Value} {n : Nat} {xs : List Value} (h : W.ownsRow base e 1 v n xs) (hB : Boxed W B t u) (ht : t ≠ e) (x : Value) : (W.setCell ⟨B, 0, none⟩ x).ownsRow base e 1 v n xs :=
  h.kept (grownBy_setCell' W B x) (.inr (hB.not_row ht h).symm)
theorem RdG.nilS {α : Type} (enc : α → Value) (w : World) (B : Nat) : RdG enc w B none ([] : List α) := fun h => absurd h (by simp)
set_option maxHeartbeats 8000000 in
set_option maxRecDepth 100000 in
theorem list7 (s : ByteArray) (l : List ByteArray) (n : Nat) (q : Int) (w : World) (hm : s.size ≤ 1000000) (hl : listS s = l) (hn : l.length = n) (hq : (listE s.data.toList : Int) = q) :
    Calls Try.prog 8 #[.string s] w (ListTo l n q w) := by
  obtain ⟨i0, hi, hz0, hz1, hz2⟩ := info_parts infoS
  have HI0 := Lib.hid hi
  have HZ0 := Lib.hid hz0
  have HZ1 := Lib.hid hz1
  have HZ2 := Lib.hid hz2
  obtain ⟨xs, hxs⟩ := pts_of (cutT s.data.toList) (fun p hp => Nat.le_trans (cutT_len _ p hp) (by rw [ba_len7]; exact hm))
  have HXS := Lib.hid hxs
  have HM := Lib.hid hm
  have HL := Lib.hid hl
  have HN := Lib.hid hn
  have HQ := Lib.hid hq
  clear hm hl hn hq hi hz0 hz1 hz2 hxs
  refine (callsIn_wide (n := 9)).1 ?_
  refine callsIn_of_wp_marks Try.func8 rfl trivial ?_ rfl
  simp only [Try.ntmps8, List.size_toArray, List.length_cons, List.length_nil, Nat.reduceAdd, Nat.reduceSub, Array.replicate_succ, Array.replicate_zero, List.push_toArray, List.append_toArray, List.nil_append, List.cons_append]
  refine wpIn_wide.2 ?_
  go_wp2_with (first
    | (go_at_call 24; (with_reducible refine (parts_any s _).mono ?_); rintro e w1 ⟨rfl, rfl⟩)
    | fail)
  obtain ⟨W7, hW7⟩ : ∃ W7, (((((w.alloc (.cells #[.slice none 0 0] TS)).alloc (.cells #[.int .i64 0] TE)).alloc (.cells #[.slice none 0 0] TS)).alloc (.cells #[.bool false] TB)).alloc (.cells #[.string s] TT)) = W7 := ⟨_, rfl⟩
  rw [hW7]
  have hs7 : W7.heap.size = w.heap.size + 1 + 1 + 1 + 1 + 1 := by rw [← hW7]; simp
  have hl7 : LI w (.slice none 0 0) false [] W7 := by
    rw [← hW7]
    refine ⟨?_, ?_, ?_, ?_, World.ownsRow_nil _ _ _ _, stpA (stpA (stpA (stpA (stpA (Below.refl _ _) _) _) _) _) _⟩
    · exact ((((Boxed.new w TS _).alloc _).alloc _).alloc _).alloc _
    · have := Boxed.new (w.alloc (.cells #[.slice none 0 0] TS)) TE (.int .i64 0)
      rw [World.size_alloc] at this
      exact ((this.alloc _).alloc _).alloc _
    · have := Boxed.new ((w.alloc (.cells #[.slice none 0 0] TS)).alloc (.cells #[.int .i64 0] TE)) TS (.slice none 0 0)
      rw [World.size_alloc, World.size_alloc] at this
      exact (this.alloc _).alloc _
    · have := Boxed.new (((w.alloc (.cells #[.slice none 0 0] TS)).alloc (.cells #[.int .i64 0] TE)).alloc (.cells #[.slice none 0 0] TS)) TB (.bool false)
      rw [World.size_alloc, World.size_alloc, World.size_alloc] at this
      exact this.alloc _
  have hc7 : W7.cell? ⟨w.heap.size + 1 + 1 + 1 + 1, 0, none⟩ = some (.string s) := by
    rw [← hW7]
    have := Boxed.new ((((w.alloc (.cells #[.slice none 0 0] TS)).alloc (.cells #[.int .i64 0] TE)).alloc (.cells #[.slice none 0 0] TS)).alloc (.cells #[.bool false] TB)) TT (.string s)
    rw [World.size_alloc, World.size_alloc, World.size_alloc, World.size_alloc] at this
    exact this.cell
  clear hW7
  refine (wpIn_wide (n := 9)).1 ?_
  refine wpIn_rangeFunc_ownF (F := Fence.wide) (n := 9) rfl (by decide) (gf := 31) (lb := #[.pointer (some ⟨w.heap.size + 1 + 1 + 1 + 1, 0, none⟩)]) rfl trivial (enters_of Try.func31 (by kernel_rfl) rfl)
    (encs := fun x : Pt => #[.string x.1]) (Kp := KpT) (S := fun ys => ys = xs) (Sp := fun pre => pre <+: xs) (N := xs.length) (w0 := W7) ?hseq (fun h k => KpT.trans h k) (fun W l o o' _ h1 h2 _ => KpT.put W l o o' h1 h2) (Below.refl _ _) (fun _ => rfl)
    (fun pre W => pre.length ≤ 16 ∧ ∃ v, LI w v (!(pre.all tokP)) (pre.map lowP) W) (fun c pre W => (c = .ret ∧ 16 < pre.length) ∧ LX w W)
    (fun s A B row hs hg hr => ⟨hs.1, LI.own (w := w) W7.heap.size (by omega) (fun pre : List Pt => pre.map lowP) (fun pre => !(pre.all tokP)) s A B row hs.2 hg hr⟩)
    (fun c => LX.own (w := w) W7.heap.size (by omega) (fun pre : List Pt => c = .ret ∧ 16 < pre.length)) ⟨by simp, _, hl7⟩
    (fun x => { tmps := #[.string s, undef, .pointer (some ⟨w.heap.size, 0, none⟩), .pointer (some ⟨w.heap.size + 1, 0, none⟩), .pointer (some ⟨w.heap.size + 1 + 1, 0, none⟩), .pointer (some ⟨w.heap.size + 1 + 1 + 1, 0, none⟩), .string x.1, .string s,
      .func (.func 31) #[] #[.pointer (some ⟨w.heap.size + 1 + 1 + 1 + 1, 0, none⟩)], .string x.1, undef, undef, undef, undef, undef, undef, undef, undef, undef, undef, undef, undef, undef, undef, undef, undef], defers := [] }) ?assign ?body ?done ?stop
  case hseq =>
    intro l J Jx W hW hJ hJx hY h0
    exact parts1_in 8 (by decide) l _ s xs HM.out HXS.out J Jx (fun ys A B h hb => hJ ys A B none h ⟨hb.os, hb.tape, hb.output, hb.size, fun k hk _ => hb.block k hk⟩ (fun r e => by cases e)) hY W ((hW.cell (p := ⟨w.heap.size + 1 + 1 + 1 + 1, 0, none⟩) (by show w.heap.size + 1 + 1 + 1 + 1 < _; omega)).trans hc7) (by have := hW.size; omega) h0
  case assign =>
    intro l x W K hK
    gi_wp2
    exact hK
  case body =>
    rintro lp pre x W ⟨h16, v, hli⟩ hlt
    have hcl := hli.2.2.1.cell
    have hcb := hli.2.2.2.1.cell
    have hfb := hli.2.2.2.1.frozen
    obtain ⟨A0, C0, rfl, hA0, _, _⟩ := own_any hli.2.2.2.2.1
    obtain ⟨m, hmm⟩ : ∃ m, (pre.map lowP).length = m := ⟨_, rfl⟩
    rw [hmm] at hli hcl
    have HMM := Lib.hid hmm
    have HLI := Lib.hid hli
    have HX : Hid (x.1.size ≤ 1000000) := x.2
    clear hli
    by_cases h17 : pre.length = 16
    · have hmq : m = 16 := by rw [← hmm, List.length_map]; exact h17
      have hq : ((m : Int) == 16) = true := by simp; omega
      have c0 := HLI.out.1.cell
      have f0 := HLI.out.1.frozen
      have e0 := HLI.out.2.1.cell
      have k0 := HLI.out.2.1.frozen
      have HR : Hid (16 < (pre ++ [x]).length) := by show 16 < _; simp; omega
      clear h17 hlt hmm hmq
      gi_wp2
      exact ⟨HLI.out.many.2, ⟨rfl, HR.out⟩, HLI.out.many.1⟩
    · have hlm : (pre.map lowP).length = pre.length := List.length_map _
      have h17' : ¬ (pre.map lowP).length = 16 := by omega
      have HLEN : Hid ((pre.map lowP).length ≤ 16) := by show _ ≤ _; omega
      have HPN : Hid ((pre ++ [x]).length ≤ 16) := by show _ ≤ _; simp; omega
      rw [hmm] at h17'
      have hq : ((m : Int) == 16) = false := by simp; omega
      obtain ⟨y, hy⟩ : ∃ y, lowS x.1 = y := ⟨_, rfl⟩
      have HY := Lib.hid hy
      have HLN : Hid (pre.map lowP ++ [y] = (pre ++ [x]).map lowP) := by show _ = _; rw [← hy, List.map_append]; rfl
      obtain ⟨tk, htk⟩ : ∃ tk, isTok x.1.data.toList = tk := ⟨_, rfl⟩
      have HTK := Lib.hid htk
      have hall : (pre ++ [x]).all tokP = (pre.all tokP && tk) := by rw [List.all_append, ← htk]; simp [tokP]
      clear hy htk hmm h17 hlm hlt h16
      cases hbd : pre.all tokP with
      | true =>
        rw [hbd] at hall hcb HLI
        rw [Bool.true_and] at hall
        clear hbd
        cases tk with
        | true =>
          have HNB : Hid (false = !((pre ++ [x]).all tokP)) := by show _ = _; rw [hall]; rfl
          clear hall
          gi_upto_region 2 with (first
            | (refine ⟨trivial, ?_⟩; gi_at_call 9; refine (CallsIn.inRound lp (callsIn_wide.2 (token7 x.1 true W HX.out HTK.out))).mono ?_; rintro e w3 ⟨rfl, hb3⟩; have HL3 := Lib.hid (HLI.out.below hb3); have c3 := HL3.out.2.2.2.1.cell; have f3 := HL3.out.2.2.2.1.frozen; have HB3 := Lib.hid hb3; clear hb3)
            | fail)
          obtain ⟨W4, hW4⟩ : ∃ W4, w3.setCell ⟨w.heap.size + 1 + 1 + 1, 0, none⟩ (.bool false) = W4 := ⟨_, rfl⟩
          have hL4 := HL3.out.bad false
          have HKB : Hid (KeepsOthers W W4) := by rw [← hW4]; exact (keeps_below7 HB3.out).trans (KeepsOthers.setCell _ _ _)
          rw [hW4] at hL4 ⊢
          have HTB : Hid (KpT W W4) := (KpT.below HB3.out).trans hL4.2
          have HL4 := Lib.hid hL4.1
          have c4 := hL4.1.2.2.1.cell
          clear hL4 hW4 hcl hcb hfb
          have hmo : Try.prog.follows .mixedOrders = true := by kernel_rfl
          refine wpIn_region_any hmo ?_
          change wpAnyIn _ _ _ _ _ _ _ _ _ (World.drew _)
          refine wpAnyIn_ready (rs := [0, 1]) (by kernel_rfl) (by simp) ?_
          refine AllReadyIn.cons rfl (fun K hK => ?_) ?_
          · skip
            go_simp
            refine hK _ _ ?_
            clear hK K
            refine wpAnyIn_ready (rs := [1]) (by kernel_rfl) (by simp) ?_
            refine AllReadyIn.cons rfl (fun K hK => ?_) AllReadyIn.nil
            go_simp
            refine hK _ _ ?_
            clear hK K
            refine wpAnyIn_ready (rs := [2]) (by kernel_rfl) (by simp) ?_
            refine AllReadyIn.cons rfl (fun K hK => ?_) AllReadyIn.nil
            go_simp
            refine ⟨trivial, ?_⟩
            gi_at_call 15
            refine (CallsIn.inRound lp (callsIn_wide.2 (lower7 x.1 y W4.drew HX.out HY.out))).mono ?_
            rintro e w5 ⟨rfl, hb5⟩
            have HL5 := Lib.hid (HL4.out.below (below_of_drew7 hb5))
            have hb5' := below_of_drew7 hb5
            have c5 := HL5.out.2.2.1.cell
            have c5a := (HL5.out.2.2.1.alloc (.cells #[.string y] 9)).cell
            have hown5 := HL5.out.2.2.2.2.1
            rw [HMM.out] at hown5
            have HOWN5 := Lib.hid hown5
            clear hown5
            have HB5 := Lib.hid hb5'
            clear hb5 hb5'
            refine hK _ _ ?_
            clear hK K
            refine wpAnyIn_ready (rs := [3]) (by kernel_rfl) (by simp) ?_
            refine AllReadyIn.cons rfl (fun K hK => ?_) AllReadyIn.nil
            go_simp
            refine hK _ _ ?_
            clear hK K
            refine wpAnyIn_ready (rs := [4]) (by kernel_rfl) (by simp) ?_
            refine AllReadyIn.cons rfl (fun K hK => ?_) AllReadyIn.nil
            rw [if_pos (by rfl)]
            refine opIn_append_rdg encS_one (.tmp 19) (.tmp 22) TS rfl w.heap.size TT i0 (.string ByteArray.empty) 16 Try.underlying22 HI0.out HZ0.out HZ1.out HZ2.out (by decide) rfl _ m _ rfl (HOWN5.out.alloc (.cells #[.string y] TT)) ⟨w5.heap.size, 0, none⟩ 1 1 [y] rfl (RdG.newS (enc := encS) w5 TT [y]) rfl (by decide) (by have := HLEN.out; have := HMM.out; omega) (by have := HL5.out.2.2.2.2.2.size; rw [World.size_alloc]; omega) ?_
            intro v6 w6 hown6 hgr6
            obtain ⟨A6, C6, rfl⟩ := ownsRow_succ hown6
            obtain ⟨b6, hL7, hK7, hT7⟩ := HL5.out.push HMM.out hown6 hgr6
            have c6 := b6.cell
            have f6 := b6.frozen
            have HL7 := Lib.hid hL7
            have HK7 := Lib.hid hK7
            have HT7 := Lib.hid hT7
            clear hL7 hK7 hT7 hown6 hgr6 b6
            refine hK _ _ ?_
            clear hK K
            refine wpAnyIn_ready (rs := [5]) (by kernel_rfl) (by simp) ?_
            refine AllReadyIn.cons rfl (fun K hK => ?_) AllReadyIn.nil
            go_simp
            refine hK _ _ ?_
            clear hK K
            refine wpAnyIn_done (by kernel_rfl) ?_ _
            gi_wp2
            exact body_end7 HKB.out HTB.out HB5.out HK7.out HT7.out HL7.out HLN.out HPN.out HNB.out
          refine AllReadyIn.cons rfl (fun K hK => ?_) AllReadyIn.nil
          go_simp
          refine hK _ _ ?_
          clear hK K
          refine wpAnyIn_ready (rs := [0, 2]) (by kernel_rfl) (by simp) ?_
          refine AllReadyIn.cons rfl (fun K hK => ?_) ?_
          · skip
            go_simp
            refine hK _ _ ?_
            clear hK K
            refine wpAnyIn_ready (rs := [2]) (by kernel_rfl) (by simp) ?_
            refine AllReadyIn.cons rfl (fun K hK => ?_) AllReadyIn.nil
            go_simp
            refine ⟨trivial, ?_⟩
            gi_at_call 15
            refine (CallsIn.inRound lp (callsIn_wide.2 (lower7 x.1 y W4.drew HX.out HY.out))).mono ?_
            rintro e w5 ⟨rfl, hb5⟩
            have HL5 := Lib.hid (HL4.out.below (below_of_drew7 hb5))
            have hb5' := below_of_drew7 hb5
            have c5 := HL5.out.2.2.1.cell
            have c5a := (HL5.out.2.2.1.alloc (.cells #[.string y] 9)).cell
            have hown5 := HL5.out.2.2.2.2.1
            rw [HMM.out] at hown5
            have HOWN5 := Lib.hid hown5
            clear hown5
            have HB5 := Lib.hid hb5'
            clear hb5 hb5'
            refine hK _ _ ?_
            clear hK K
            refine wpAnyIn_ready (rs := [3]) (by kernel_rfl) (by simp) ?_
            refine AllReadyIn.cons rfl (fun K hK => ?_) AllReadyIn.nil
            go_simp
            refine hK _ _ ?_
            clear hK K
            refine wpAnyIn_ready (rs := [4]) (by kernel_rfl) (by simp) ?_
            refine AllReadyIn.cons rfl (fun K hK => ?_) AllReadyIn.nil
            rw [if_pos (by rfl)]
            refine opIn_append_rdg encS_one (.tmp 19) (.tmp 22) TS rfl w.heap.size TT i0 (.string ByteArray.empty) 16 Try.underlying22 HI0.out HZ0.out HZ1.out HZ2.out (by decide) rfl _ m _ rfl (HOWN5.out.alloc (.cells #[.string y] TT)) ⟨w5.heap.size, 0, none⟩ 1 1 [y] rfl (RdG.newS (enc := encS) w5 TT [y]) rfl (by decide) (by have := HLEN.out; have := HMM.out; omega) (by have := HL5.out.2.2.2.2.2.size; rw [World.size_alloc]; omega) ?_
            intro v6 w6 hown6 hgr6
            obtain ⟨A6, C6, rfl⟩ := ownsRow_succ hown6
            obtain ⟨b6, hL7, hK7, hT7⟩ := HL5.out.push HMM.out hown6 hgr6
            have c6 := b6.cell
            have f6 := b6.frozen
            have HL7 := Lib.hid hL7
            have HK7 := Lib.hid hK7
            have HT7 := Lib.hid hT7
            clear hL7 hK7 hT7 hown6 hgr6 b6
            refine hK _ _ ?_
            clear hK K
            refine wpAnyIn_ready (rs := [5]) (by kernel_rfl) (by simp) ?_
            refine AllReadyIn.cons rfl (fun K hK => ?_) AllReadyIn.nil
            go_simp
            refine hK _ _ ?_
            clear hK K
            refine wpAnyIn_done (by kernel_rfl) ?_ _
            gi_wp2
            exact body_end7 HKB.out HTB.out HB5.out HK7.out HT7.out HL7.out HLN.out HPN.out HNB.out
          refine AllReadyIn.cons rfl (fun K hK => ?_) AllReadyIn.nil
          go_simp
          refine ⟨trivial, ?_⟩
          gi_at_call 15
          refine (CallsIn.inRound lp (callsIn_wide.2 (lower7 x.1 y W4.drew HX.out HY.out))).mono ?_
          rintro e w5 ⟨rfl, hb5⟩
          have HL5 := Lib.hid (HL4.out.below (below_of_drew7 hb5))
          have hb5' := below_of_drew7 hb5
          have c5 := HL5.out.2.2.1.cell
          have c5a := (HL5.out.2.2.1.alloc (.cells #[.string y] 9)).cell
          have hown5 := HL5.out.2.2.2.2.1
          rw [HMM.out] at hown5
          have HOWN5 := Lib.hid hown5
          clear hown5
          have HB5 := Lib.hid hb5'
          clear hb5 hb5'
          refine hK _ _ ?_
          clear hK K
          refine wpAnyIn_ready (rs := [0, 3]) (by kernel_rfl) (by simp) ?_
          refine AllReadyIn.cons rfl (fun K hK => ?_) ?_
          · skip
            go_simp
            refine hK _ _ ?_
            clear hK K
            refine wpAnyIn_ready (rs := [3]) (by kernel_rfl) (by simp) ?_
            refine AllReadyIn.cons rfl (fun K hK => ?_) AllReadyIn.nil
            go_simp
            refine hK _ _ ?_
            clear hK K
            refine wpAnyIn_ready (rs := [4]) (by kernel_rfl) (by simp) ?_
            refine AllReadyIn.cons rfl (fun K hK => ?_) AllReadyIn.nil
            rw [if_pos (by rfl)]
            refine opIn_append_rdg encS_one (.tmp 19) (.tmp 22) TS rfl w.heap.size TT i0 (.string ByteArray.empty) 16 Try.underlying22 HI0.out HZ0.out HZ1.out HZ2.out (by decide) rfl _ m _ rfl (HOWN5.out.alloc (.cells #[.string y] TT)) ⟨w5.heap.size, 0, none⟩ 1 1 [y] rfl (RdG.newS (enc := encS) w5 TT [y]) rfl (by decide) (by have := HLEN.out; have := HMM.out; omega) (by have := HL5.out.2.2.2.2.2.size; rw [World.size_alloc]; omega) ?_
            intro v6 w6 hown6 hgr6
            obtain ⟨A6, C6, rfl⟩ := ownsRow_succ hown6
            obtain ⟨b6, hL7, hK7, hT7⟩ := HL5.out.push HMM.out hown6 hgr6
            have c6 := b6.cell
            have f6 := b6.frozen
            have HL7 := Lib.hid hL7
            have HK7 := Lib.hid hK7
            have HT7 := Lib.hid hT7
            clear hL7 hK7 hT7 hown6 hgr6 b6
            refine hK _ _ ?_
            clear hK K
            refine wpAnyIn_ready (rs := [5]) (by kernel_rfl) (by simp) ?_
            refine AllReadyIn.cons rfl (fun K hK => ?_) AllReadyIn.nil
            go_simp
            refine hK _ _ ?_
            clear hK K
            refine wpAnyIn_done (by kernel_rfl) ?_ _
            gi_wp2
            exact body_end7 HKB.out HTB.out HB5.out HK7.out HT7.out HL7.out HLN.out HPN.out HNB.out
          refine AllReadyIn.cons rfl (fun K hK => ?_) AllReadyIn.nil
          go_simp
          refine hK _ _ ?_
          clear hK K
          refine wpAnyIn_ready (rs := [0]) (by kernel_rfl) (by simp) ?_
          refine AllReadyIn.cons rfl (fun K hK => ?_) AllReadyIn.nil
          go_simp
          refine hK _ _ ?_
          clear hK K
          refine wpAnyIn_ready (rs := [4]) (by kernel_rfl) (by simp) ?_
          refine AllReadyIn.cons rfl (fun K hK => ?_) AllReadyIn.nil
          rw [if_pos (by rfl)]
          refine opIn_append_rdg encS_one (.tmp 19) (.tmp 22) TS rfl w.heap.size TT i0 (.string ByteArray.empty) 16 Try.underlying22 HI0.out HZ0.out HZ1.out HZ2.out (by decide) rfl _ m _ rfl (HOWN5.out.alloc (.cells #[.string y] TT)) ⟨w5.heap.size, 0, none⟩ 1 1 [y] rfl (RdG.newS (enc := encS) w5 TT [y]) rfl (by decide) (by have := HLEN.out; have := HMM.out; omega) (by have := HL5.out.2.2.2.2.2.size; rw [World.size_alloc]; omega) ?_
          intro v6 w6 hown6 hgr6
          obtain ⟨A6, C6, rfl⟩ := ownsRow_succ hown6
          obtain ⟨b6, hL7, hK7, hT7⟩ := HL5.out.push HMM.out hown6 hgr6
          have c6 := b6.cell
          have f6 := b6.frozen
          have HL7 := Lib.hid hL7
          have HK7 := Lib.hid hK7
          have HT7 := Lib.hid hT7
          clear hL7 hK7 hT7 hown6 hgr6 b6
          refine hK _ _ ?_
          clear hK K
          refine wpAnyIn_ready (rs := [5]) (by kernel_rfl) (by simp) ?_
          refine AllReadyIn.cons rfl (fun K hK => ?_) AllReadyIn.nil
          go_simp
          refine hK _ _ ?_
          clear hK K
          refine wpAnyIn_done (by kernel_rfl) ?_ _
          gi_wp2
          exact body_end7 HKB.out HTB.out HB5.out HK7.out HT7.out HL7.out HLN.out HPN.out HNB.out
        | false =>
          have HNB : Hid (true = !((pre ++ [x]).all tokP)) := by show _ = _; rw [hall]; rfl
          clear hall
          gi_upto_region 2 with (first
            | (refine ⟨trivial, ?_⟩; gi_at_call 9; refine (CallsIn.inRound lp (callsIn_wide.2 (token7 x.1 false W HX.out HTK.out))).mono ?_; rintro e w3 ⟨rfl, hb3⟩; have HL3 := Lib.hid (HLI.out.below hb3); have c3 := HL3.out.2.2.2.1.cell; have f3 := HL3.out.2.2.2.1.frozen; have HB3 := Lib.hid hb3; clear hb3)
            | fail)
          obtain ⟨W4, hW4⟩ : ∃ W4, w3.setCell ⟨w.heap.size + 1 + 1 + 1, 0, none⟩ (.bool true) = W4 := ⟨_, rfl⟩
          have hL4 := HL3.out.bad true
          have HKB : Hid (KeepsOthers W W4) := by rw [← hW4]; exact (keeps_below7 HB3.out).trans (KeepsOthers.setCell _ _ _)
          rw [hW4] at hL4 ⊢
          have HTB : Hid (KpT W W4) := (KpT.below HB3.out).trans hL4.2
          have HL4 := Lib.hid hL4.1
          have c4 := hL4.1.2.2.1.cell
          clear hL4 hW4 hcl hcb hfb
          have hmo : Try.prog.follows .mixedOrders = true := by kernel_rfl
          refine wpIn_region_any hmo ?_
          change wpAnyIn _ _ _ _ _ _ _ _ _ (World.drew _)
          refine wpAnyIn_ready (rs := [0, 1]) (by kernel_rfl) (by simp) ?_
          refine AllReadyIn.cons rfl (fun K hK => ?_) ?_
          · skip
            go_simp
            refine hK _ _ ?_
            clear hK K
            refine wpAnyIn_ready (rs := [1]) (by kernel_rfl) (by simp) ?_
            refine AllReadyIn.cons rfl (fun K hK => ?_) AllReadyIn.nil
            go_simp
            refine hK _ _ ?_
            clear hK K
            refine wpAnyIn_ready (rs := [2]) (by kernel_rfl) (by simp) ?_
            refine AllReadyIn.cons rfl (fun K hK => ?_) AllReadyIn.nil
            go_simp
            refine ⟨trivial, ?_⟩
            gi_at_call 15
            refine (CallsIn.inRound lp (callsIn_wide.2 (lower7 x.1 y W4.drew HX.out HY.out))).mono ?_
            rintro e w5 ⟨rfl, hb5⟩
            have HL5 := Lib.hid (HL4.out.below (below_of_drew7 hb5))
            have hb5' := below_of_drew7 hb5
            have c5 := HL5.out.2.2.1.cell
            have c5a := (HL5.out.2.2.1.alloc (.cells #[.string y] 9)).cell
            have hown5 := HL5.out.2.2.2.2.1
            rw [HMM.out] at hown5
            have HOWN5 := Lib.hid hown5
            clear hown5
            have HB5 := Lib.hid hb5'
            clear hb5 hb5'
            refine hK _ _ ?_
            clear hK K
            refine wpAnyIn_ready (rs := [3]) (by kernel_rfl) (by simp) ?_
            refine AllReadyIn.cons rfl (fun K hK => ?_) AllReadyIn.nil
            go_simp
            refine hK _ _ ?_
            clear hK K
            refine wpAnyIn_ready (rs := [4]) (by kernel_rfl) (by simp) ?_
            refine AllReadyIn.cons rfl (fun K hK => ?_) AllReadyIn.nil
            rw [if_pos (by rfl)]
            refine opIn_append_rdg encS_one (.tmp 19) (.tmp 22) TS rfl w.heap.size TT i0 (.string ByteArray.empty) 16 Try.underlying22 HI0.out HZ0.out HZ1.out HZ2.out (by decide) rfl _ m _ rfl (HOWN5.out.alloc (.cells #[.string y] TT)) ⟨w5.heap.size, 0, none⟩ 1 1 [y] rfl (RdG.newS (enc := encS) w5 TT [y]) rfl (by decide) (by have := HLEN.out; have := HMM.out; omega) (by have := HL5.out.2.2.2.2.2.size; rw [World.size_alloc]; omega) ?_
            intro v6 w6 hown6 hgr6
            obtain ⟨A6, C6, rfl⟩ := ownsRow_succ hown6
            obtain ⟨b6, hL7, hK7, hT7⟩ := HL5.out.push HMM.out hown6 hgr6
            have c6 := b6.cell
            have f6 := b6.frozen
            have HL7 := Lib.hid hL7
            have HK7 := Lib.hid hK7
            have HT7 := Lib.hid hT7
            clear hL7 hK7 hT7 hown6 hgr6 b6
            refine hK _ _ ?_
            clear hK K
            refine wpAnyIn_ready (rs := [5]) (by kernel_rfl) (by simp) ?_
            refine AllReadyIn.cons rfl (fun K hK => ?_) AllReadyIn.nil
            go_simp
            refine hK _ _ ?_
            clear hK K
            refine wpAnyIn_done (by kernel_rfl) ?_ _
            gi_wp2
            exact body_end7 HKB.out HTB.out HB5.out HK7.out HT7.out HL7.out HLN.out HPN.out HNB.out
          refine AllReadyIn.cons rfl (fun K hK => ?_) AllReadyIn.nil
          go_simp
          refine hK _ _ ?_
          clear hK K
          refine wpAnyIn_ready (rs := [0, 2]) (by kernel_rfl) (by simp) ?_
          refine AllReadyIn.cons rfl (fun K hK => ?_) ?_
          · skip
            go_simp
            refine hK _ _ ?_
            clear hK K
            refine wpAnyIn_ready (rs := [2]) (by kernel_rfl) (by simp) ?_
            refine AllReadyIn.cons rfl (fun K hK => ?_) AllReadyIn.nil
            go_simp
            refine ⟨trivial, ?_⟩
            gi_at_call 15
            refine (CallsIn.inRound lp (callsIn_wide.2 (lower7 x.1 y W4.drew HX.out HY.out))).mono ?_
            rintro e w5 ⟨rfl, hb5⟩
            have HL5 := Lib.hid (HL4.out.below (below_of_drew7 hb5))
            have hb5' := below_of_drew7 hb5
            have c5 := HL5.out.2.2.1.cell
            have c5a := (HL5.out.2.2.1.alloc (.cells #[.string y] 9)).cell
            have hown5 := HL5.out.2.2.2.2.1
            rw [HMM.out] at hown5
            have HOWN5 := Lib.hid hown5
            clear hown5
            have HB5 := Lib.hid hb5'
            clear hb5 hb5'
            refine hK _ _ ?_
            clear hK K
            refine wpAnyIn_ready (rs := [3]) (by kernel_rfl) (by simp) ?_
            refine AllReadyIn.cons rfl (fun K hK => ?_) AllReadyIn.nil
            go_simp
            refine hK _ _ ?_
            clear hK K
            refine wpAnyIn_ready (rs := [4]) (by kernel_rfl) (by simp) ?_
            refine AllReadyIn.cons rfl (fun K hK => ?_) AllReadyIn.nil
            rw [if_pos (by rfl)]
            refine opIn_append_rdg encS_one (.tmp 19) (.tmp 22) TS rfl w.heap.size TT i0 (.string ByteArray.empty) 16 Try.underlying22 HI0.out HZ0.out HZ1.out HZ2.out (by decide) rfl _ m _ rfl (HOWN5.out.alloc (.cells #[.string y] TT)) ⟨w5.heap.size, 0, none⟩ 1 1 [y] rfl (RdG.newS (enc := encS) w5 TT [y]) rfl (by decide) (by have := HLEN.out; have := HMM.out; omega) (by have := HL5.out.2.2.2.2.2.size; rw [World.size_alloc]; omega) ?_
            intro v6 w6 hown6 hgr6
            obtain ⟨A6, C6, rfl⟩ := ownsRow_succ hown6
            obtain ⟨b6, hL7, hK7, hT7⟩ := HL5.out.push HMM.out hown6 hgr6
            have c6 := b6.cell
            have f6 := b6.frozen
            have HL7 := Lib.hid hL7
            have HK7 := Lib.hid hK7
            have HT7 := Lib.hid hT7
            clear hL7 hK7 hT7 hown6 hgr6 b6
            refine hK _ _ ?_
            clear hK K
            refine wpAnyIn_ready (rs := [5]) (by kernel_rfl) (by simp) ?_
            refine AllReadyIn.cons rfl (fun K hK => ?_) AllReadyIn.nil
            go_simp
            refine hK _ _ ?_
            clear hK K
            refine wpAnyIn_done (by kernel_rfl) ?_ _
            gi_wp2
            exact body_end7 HKB.out HTB.out HB5.out HK7.out HT7.out HL7.out HLN.out HPN.out HNB.out
          refine AllReadyIn.cons rfl (fun K hK => ?_) AllReadyIn.nil
          go_simp
          refine ⟨trivial, ?_⟩
          gi_at_call 15
          refine (CallsIn.inRound lp (callsIn_wide.2 (lower7 x.1 y W4.drew HX.out HY.out))).mono ?_
          rintro e w5 ⟨rfl, hb5⟩
          have HL5 := Lib.hid (HL4.out.below (below_of_drew7 hb5))
          have hb5' := below_of_drew7 hb5
          have c5 := HL5.out.2.2.1.cell
          have c5a := (HL5.out.2.2.1.alloc (.cells #[.string y] 9)).cell
          have hown5 := HL5.out.2.2.2.2.1
          rw [HMM.out] at hown5
          have HOWN5 := Lib.hid hown5
          clear hown5
          have HB5 := Lib.hid hb5'
          clear hb5 hb5'
          refine hK _ _ ?_
          clear hK K
          refine wpAnyIn_ready (rs := [0, 3]) (by kernel_rfl) (by simp) ?_
          refine AllReadyIn.cons rfl (fun K hK => ?_) ?_
          · skip
            go_simp
            refine hK _ _ ?_
            clear hK K
            refine wpAnyIn_ready (rs := [3]) (by kernel_rfl) (by simp) ?_
            refine AllReadyIn.cons rfl (fun K hK => ?_) AllReadyIn.nil
            go_simp
            refine hK _ _ ?_
            clear hK K
            refine wpAnyIn_ready (rs := [4]) (by kernel_rfl) (by simp) ?_
            refine AllReadyIn.cons rfl (fun K hK => ?_) AllReadyIn.nil
            rw [if_pos (by rfl)]
            refine opIn_append_rdg encS_one (.tmp 19) (.tmp 22) TS rfl w.heap.size TT i0 (.string ByteArray.empty) 16 Try.underlying22 HI0.out HZ0.out HZ1.out HZ2.out (by decide) rfl _ m _ rfl (HOWN5.out.alloc (.cells #[.string y] TT)) ⟨w5.heap.size, 0, none⟩ 1 1 [y] rfl (RdG.newS (enc := encS) w5 TT [y]) rfl (by decide) (by have := HLEN.out; have := HMM.out; omega) (by have := HL5.out.2.2.2.2.2.size; rw [World.size_alloc]; omega) ?_
            intro v6 w6 hown6 hgr6
            obtain ⟨A6, C6, rfl⟩ := ownsRow_succ hown6
            obtain ⟨b6, hL7, hK7, hT7⟩ := HL5.out.push HMM.out hown6 hgr6
            have c6 := b6.cell
            have f6 := b6.frozen
            have HL7 := Lib.hid hL7
            have HK7 := Lib.hid hK7
            have HT7 := Lib.hid hT7
            clear hL7 hK7 hT7 hown6 hgr6 b6
            refine hK _ _ ?_
            clear hK K
            refine wpAnyIn_ready (rs := [5]) (by kernel_rfl) (by simp) ?_
            refine AllReadyIn.cons rfl (fun K hK => ?_) AllReadyIn.nil
            go_simp
            refine hK _ _ ?_
            clear hK K
            refine wpAnyIn_done (by kernel_rfl) ?_ _
            gi_wp2
            exact body_end7 HKB.out HTB.out HB5.out HK7.out HT7.out HL7.out HLN.out HPN.out HNB.out
          refine AllReadyIn.cons rfl (fun K hK => ?_) AllReadyIn.nil
          go_simp
          refine hK _ _ ?_
          clear hK K
          refine wpAnyIn_ready (rs := [0]) (by kernel_rfl) (by simp) ?_
          refine AllReadyIn.cons rfl (fun K hK => ?_) AllReadyIn.nil
          go_simp
          refine hK _ _ ?_
          clear hK K
          refine wpAnyIn_ready (rs := [4]) (by kernel_rfl) (by simp) ?_
          refine AllReadyIn.cons rfl (fun K hK => ?_) AllReadyIn.nil
          rw [if_pos (by rfl)]
          refine opIn_append_rdg encS_one (.tmp 19) (.tmp 22) TS rfl w.heap.size TT i0 (.string ByteArray.empty) 16 Try.underlying22 HI0.out HZ0.out HZ1.out HZ2.out (by decide) rfl _ m _ rfl (HOWN5.out.alloc (.cells #[.string y] TT)) ⟨w5.heap.size, 0, none⟩ 1 1 [y] rfl (RdG.newS (enc := encS) w5 TT [y]) rfl (by decide) (by have := HLEN.out; have := HMM.out; omega) (by have := HL5.out.2.2.2.2.2.size; rw [World.size_alloc]; omega) ?_
          intro v6 w6 hown6 hgr6
          obtain ⟨A6, C6, rfl⟩ := ownsRow_succ hown6
          obtain ⟨b6, hL7, hK7, hT7⟩ := HL5.out.push HMM.out hown6 hgr6
          have c6 := b6.cell
          have f6 := b6.frozen
          have HL7 := Lib.hid hL7
          have HK7 := Lib.hid hK7
          have HT7 := Lib.hid hT7
          clear hL7 hK7 hT7 hown6 hgr6 b6
          refine hK _ _ ?_
          clear hK K
          refine wpAnyIn_ready (rs := [5]) (by kernel_rfl) (by simp) ?_
          refine AllReadyIn.cons rfl (fun K hK => ?_) AllReadyIn.nil
          go_simp
          refine hK _ _ ?_
          clear hK K
          refine wpAnyIn_done (by kernel_rfl) ?_ _
          gi_wp2
          exact body_end7 HKB.out HTB.out HB5.out HK7.out HT7.out HL7.out HLN.out HPN.out HNB.out
      | false =>
        rw [hbd] at hall hcb HLI
        rw [Bool.false_and] at hall
        have HNB : Hid (true = !((pre ++ [x]).all tokP)) := by show _ = _; rw [hall]; rfl
        clear hall hbd
        gi_upto_region 2 with fail
        refine ⟨trivial, ?_⟩
        gi_upto_region 1 with fail
        obtain ⟨W4, hW4⟩ : ∃ W4, W.setCell ⟨w.heap.size + 1 + 1 + 1, 0, none⟩ (.bool true) = W4 := ⟨_, rfl⟩
        have hL4 := HLI.out.bad true
        have HKB : Hid (KeepsOthers W W4) := by rw [← hW4]; exact KeepsOthers.setCell _ _ _
        rw [hW4] at hL4 ⊢
        have HTB : Hid (KpT W W4) := hL4.2
        have HL4 := Lib.hid hL4.1
        have c4 := hL4.1.2.2.1.cell
        clear hL4 hW4 hcl hcb hfb
        have hmo : Try.prog.follows .mixedOrders = true := by kernel_rfl
        refine wpIn_region_any hmo ?_
        change wpAnyIn _ _ _ _ _ _ _ _ _ (World.drew _)
        refine wpAnyIn_ready (rs := [0, 1]) (by kernel_rfl) (by simp) ?_
        refine AllReadyIn.cons rfl (fun K hK => ?_) ?_
        · skip
          go_simp
          refine hK _ _ ?_
          clear hK K
          refine wpAnyIn_ready (rs := [1]) (by kernel_rfl) (by simp) ?_
          refine AllReadyIn.cons rfl (fun K hK => ?_) AllReadyIn.nil
          go_simp
          refine hK _ _ ?_
          clear hK K
          refine wpAnyIn_ready (rs := [2]) (by kernel_rfl) (by simp) ?_
          refine AllReadyIn.cons rfl (fun K hK => ?_) AllReadyIn.nil
          go_simp
          refine ⟨trivial, ?_⟩
          gi_at_call 15
          refine (CallsIn.inRound lp (callsIn_wide.2 (lower7 x.1 y W4.drew HX.out HY.out))).mono ?_
          rintro e w5 ⟨rfl, hb5⟩
          have HL5 := Lib.hid (HL4.out.below (below_of_drew7 hb5))
          have hb5' := below_of_drew7 hb5
          have c5 := HL5.out.2.2.1.cell
          have c5a := (HL5.out.2.2.1.alloc (.cells #[.string y] 9)).cell
          have hown5 := HL5.out.2.2.2.2.1
          rw [HMM.out] at hown5
          have HOWN5 := Lib.hid hown5
          clear hown5
          have HB5 := Lib.hid hb5'
          clear hb5 hb5'
          refine hK _ _ ?_
          clear hK K
          refine wpAnyIn_ready (rs := [3]) (by kernel_rfl) (by simp) ?_
          refine AllReadyIn.cons rfl (fun K hK => ?_) AllReadyIn.nil
          go_simp
          refine hK _ _ ?_
          clear hK K
          refine wpAnyIn_ready (rs := [4]) (by kernel_rfl) (by simp) ?_
          refine AllReadyIn.cons rfl (fun K hK => ?_) AllReadyIn.nil
          rw [if_pos (by rfl)]
          refine opIn_append_rdg encS_one (.tmp 19) (.tmp 22) TS rfl w.heap.size TT i0 (.string ByteArray.empty) 16 Try.underlying22 HI0.out HZ0.out HZ1.out HZ2.out (by decide) rfl _ m _ rfl (HOWN5.out.alloc (.cells #[.string y] TT)) ⟨w5.heap.size, 0, none⟩ 1 1 [y] rfl (RdG.newS (enc := encS) w5 TT [y]) rfl (by decide) (by have := HLEN.out; have := HMM.out; omega) (by have := HL5.out.2.2.2.2.2.size; rw [World.size_alloc]; omega) ?_
          intro v6 w6 hown6 hgr6
          obtain ⟨A6, C6, rfl⟩ := ownsRow_succ hown6
          obtain ⟨b6, hL7, hK7, hT7⟩ := HL5.out.push HMM.out hown6 hgr6
          have c6 := b6.cell
          have f6 := b6.frozen
          have HL7 := Lib.hid hL7
          have HK7 := Lib.hid hK7
          have HT7 := Lib.hid hT7
          clear hL7 hK7 hT7 hown6 hgr6 b6
          refine hK _ _ ?_
          clear hK K
          refine wpAnyIn_ready (rs := [5]) (by kernel_rfl) (by simp) ?_
          refine AllReadyIn.cons rfl (fun K hK => ?_) AllReadyIn.nil
          go_simp
          refine hK _ _ ?_
          clear hK K
          refine wpAnyIn_done (by kernel_rfl) ?_ _
          gi_wp2
          exact body_end7 HKB.out HTB.out HB5.out HK7.out HT7.out HL7.out HLN.out HPN.out HNB.out
        refine AllReadyIn.cons rfl (fun K hK => ?_) AllReadyIn.nil
        go_simp
        refine hK _ _ ?_
        clear hK K
        refine wpAnyIn_ready (rs := [0, 2]) (by kernel_rfl) (by simp) ?_
        refine AllReadyIn.cons rfl (fun K hK => ?_) ?_
        · skip
          go_simp
          refine hK _ _ ?_
          clear hK K
          refine wpAnyIn_ready (rs := [2]) (by kernel_rfl) (by simp) ?_
          refine AllReadyIn.cons rfl (fun K hK => ?_) AllReadyIn.nil
          go_simp
          refine ⟨trivial, ?_⟩
          gi_at_call 15
          refine (CallsIn.inRound lp (callsIn_wide.2 (lower7 x.1 y W4.drew HX.out HY.out))).mono ?_
          rintro e w5 ⟨rfl, hb5⟩
          have HL5 := Lib.hid (HL4.out.below (below_of_drew7 hb5))
          have hb5' := below_of_drew7 hb5
          have c5 := HL5.out.2.2.1.cell
          have c5a := (HL5.out.2.2.1.alloc (.cells #[.string y] 9)).cell
          have hown5 := HL5.out.2.2.2.2.1
          rw [HMM.out] at hown5
          have HOWN5 := Lib.hid hown5
          clear hown5
          have HB5 := Lib.hid hb5'
          clear hb5 hb5'
          refine hK _ _ ?_
          clear hK K
          refine wpAnyIn_ready (rs := [3]) (by kernel_rfl) (by simp) ?_
          refine AllReadyIn.cons rfl (fun K hK => ?_) AllReadyIn.nil
          go_simp
          refine hK _ _ ?_
          clear hK K
          refine wpAnyIn_ready (rs := [4]) (by kernel_rfl) (by simp) ?_
          refine AllReadyIn.cons rfl (fun K hK => ?_) AllReadyIn.nil
          rw [if_pos (by rfl)]
          refine opIn_append_rdg encS_one (.tmp 19) (.tmp 22) TS rfl w.heap.size TT i0 (.string ByteArray.empty) 16 Try.underlying22 HI0.out HZ0.out HZ1.out HZ2.out (by decide) rfl _ m _ rfl (HOWN5.out.alloc (.cells #[.string y] TT)) ⟨w5.heap.size, 0, none⟩ 1 1 [y] rfl (RdG.newS (enc := encS) w5 TT [y]) rfl (by decide) (by have := HLEN.out; have := HMM.out; omega) (by have := HL5.out.2.2.2.2.2.size; rw [World.size_alloc]; omega) ?_
          intro v6 w6 hown6 hgr6
          obtain ⟨A6, C6, rfl⟩ := ownsRow_succ hown6
          obtain ⟨b6, hL7, hK7, hT7⟩ := HL5.out.push HMM.out hown6 hgr6
          have c6 := b6.cell
          have f6 := b6.frozen
          have HL7 := Lib.hid hL7
          have HK7 := Lib.hid hK7
          have HT7 := Lib.hid hT7
          clear hL7 hK7 hT7 hown6 hgr6 b6
          refine hK _ _ ?_
          clear hK K
          refine wpAnyIn_ready (rs := [5]) (by kernel_rfl) (by simp) ?_
          refine AllReadyIn.cons rfl (fun K hK => ?_) AllReadyIn.nil
          go_simp
          refine hK _ _ ?_
          clear hK K
          refine wpAnyIn_done (by kernel_rfl) ?_ _
          gi_wp2
          exact body_end7 HKB.out HTB.out HB5.out HK7.out HT7.out HL7.out HLN.out HPN.out HNB.out
        refine AllReadyIn.cons rfl (fun K hK => ?_) AllReadyIn.nil
        go_simp
        refine ⟨trivial, ?_⟩
        gi_at_call 15
        refine (CallsIn.inRound lp (callsIn_wide.2 (lower7 x.1 y W4.drew HX.out HY.out))).mono ?_
        rintro e w5 ⟨rfl, hb5⟩
        have HL5 := Lib.hid (HL4.out.below (below_of_drew7 hb5))
        have hb5' := below_of_drew7 hb5
        have c5 := HL5.out.2.2.1.cell
        have c5a := (HL5.out.2.2.1.alloc (.cells #[.string y] 9)).cell
        have hown5 := HL5.out.2.2.2.2.1
        rw [HMM.out] at hown5
        have HOWN5 := Lib.hid hown5
        clear hown5
        have HB5 := Lib.hid hb5'
        clear hb5 hb5'
        refine hK _ _ ?_
        clear hK K
        refine wpAnyIn_ready (rs := [0, 3]) (by kernel_rfl) (by simp) ?_
        refine AllReadyIn.cons rfl (fun K hK => ?_) ?_
        · skip
          go_simp
          refine hK _ _ ?_
          clear hK K
          refine wpAnyIn_ready (rs := [3]) (by kernel_rfl) (by simp) ?_
          refine AllReadyIn.cons rfl (fun K hK => ?_) AllReadyIn.nil
          go_simp
          refine hK _ _ ?_
          clear hK K
          refine wpAnyIn_ready (rs := [4]) (by kernel_rfl) (by simp) ?_
          refine AllReadyIn.cons rfl (fun K hK => ?_) AllReadyIn.nil
          rw [if_pos (by rfl)]
          refine opIn_append_rdg encS_one (.tmp 19) (.tmp 22) TS rfl w.heap.size TT i0 (.string ByteArray.empty) 16 Try.underlying22 HI0.out HZ0.out HZ1.out HZ2.out (by decide) rfl _ m _ rfl (HOWN5.out.alloc (.cells #[.string y] TT)) ⟨w5.heap.size, 0, none⟩ 1 1 [y] rfl (RdG.newS (enc := encS) w5 TT [y]) rfl (by decide) (by have := HLEN.out; have := HMM.out; omega) (by have := HL5.out.2.2.2.2.2.size; rw [World.size_alloc]; omega) ?_
          intro v6 w6 hown6 hgr6
          obtain ⟨A6, C6, rfl⟩ := ownsRow_succ hown6
          obtain ⟨b6, hL7, hK7, hT7⟩ := HL5.out.push HMM.out hown6 hgr6
          have c6 := b6.cell
          have f6 := b6.frozen
          have HL7 := Lib.hid hL7
          have HK7 := Lib.hid hK7
          have HT7 := Lib.hid hT7
          clear hL7 hK7 hT7 hown6 hgr6 b6
          refine hK _ _ ?_
          clear hK K
          refine wpAnyIn_ready (rs := [5]) (by kernel_rfl) (by simp) ?_
          refine AllReadyIn.cons rfl (fun K hK => ?_) AllReadyIn.nil
          go_simp
          refine hK _ _ ?_
          clear hK K
          refine wpAnyIn_done (by kernel_rfl) ?_ _
          gi_wp2
          exact body_end7 HKB.out HTB.out HB5.out HK7.out HT7.out HL7.out HLN.out HPN.out HNB.out
        refine AllReadyIn.cons rfl (fun K hK => ?_) AllReadyIn.nil
        go_simp
        refine hK _ _ ?_
        clear hK K
        refine wpAnyIn_ready (rs := [0]) (by kernel_rfl) (by simp) ?_
        refine AllReadyIn.cons rfl (fun K hK => ?_) AllReadyIn.nil
        go_simp
        refine hK _ _ ?_
        clear hK K
        refine wpAnyIn_ready (rs := [4]) (by kernel_rfl) (by simp) ?_
        refine AllReadyIn.cons rfl (fun K hK => ?_) AllReadyIn.nil
        rw [if_pos (by rfl)]
        refine opIn_append_rdg encS_one (.tmp 19) (.tmp 22) TS rfl w.heap.size TT i0 (.string ByteArray.empty) 16 Try.underlying22 HI0.out HZ0.out HZ1.out HZ2.out (by decide) rfl _ m _ rfl (HOWN5.out.alloc (.cells #[.string y] TT)) ⟨w5.heap.size, 0, none⟩ 1 1 [y] rfl (RdG.newS (enc := encS) w5 TT [y]) rfl (by decide) (by have := HLEN.out; have := HMM.out; omega) (by have := HL5.out.2.2.2.2.2.size; rw [World.size_alloc]; omega) ?_
        intro v6 w6 hown6 hgr6
        obtain ⟨A6, C6, rfl⟩ := ownsRow_succ hown6
        obtain ⟨b6, hL7, hK7, hT7⟩ := HL5.out.push HMM.out hown6 hgr6
        have c6 := b6.cell
        have f6 := b6.frozen
        have HL7 := Lib.hid hL7
        have HK7 := Lib.hid hK7
        have HT7 := Lib.hid hT7
        clear hL7 hK7 hT7 hown6 hgr6 b6
        refine hK _ _ ?_
        clear hK K
        refine wpAnyIn_ready (rs := [5]) (by kernel_rfl) (by simp) ?_
        refine AllReadyIn.cons rfl (fun K hK => ?_) AllReadyIn.nil
        go_simp
        refine hK _ _ ?_
        clear hK K
        refine wpAnyIn_done (by kernel_rfl) ?_ _
        gi_wp2
        exact body_end7 HKB.out HTB.out HB5.out HK7.out HT7.out HL7.out HLN.out HPN.out HNB.out

  case done =>
    rintro D ys W hD rfl ⟨h16, v, hli⟩ hK
    have hD2 : w.heap.size + 1 + 1 + 1 < D := by omega
    have h1 := hli.1
    have h2 := hli.2.1
    have c0 := hli.1.cell
    have f0 := hli.1.frozen
    have e0 := hli.2.1.cell
    have k0 := hli.2.1.frozen
    have cl := hli.2.2.1.cell
    have cb := hli.2.2.2.1.cell
    cases hall : ys.all tokP with
    | false =>
      rw [hall] at cb
      have hE := listE_bad HXS.out h16 hall
      obtain rfl : (8 : Int) = q := by rw [← HQ.out, hE]; rfl
      obtain rfl : [] = l := by rw [← HL.out, listS_nil s (by rw [hE]; decide)]
      obtain rfl : 0 = n := HN.out
      have hK2 : ((W.setCell ⟨w.heap.size, 0, none⟩ (.slice none 0 0)).setCell ⟨w.heap.size + 1, 0, none⟩ (.int .i64 8)).heap[D]? = some (.deferred (some [])) := ((heap_setCell_other _ _ _ _ (by simp; omega)).trans (heap_setCell_other _ _ _ _ (by simp; omega))).trans hK
      have b1 : Boxed ((W.setCell ⟨w.heap.size, 0, none⟩ (.slice none 0 0)).setCell ⟨w.heap.size + 1, 0, none⟩ (.int .i64 8)) w.heap.size TS (.slice none 0 0) := boxed_other (h1.set _) (by omega)
      have b2 : Boxed ((W.setCell ⟨w.heap.size, 0, none⟩ (.slice none 0 0)).setCell ⟨w.heap.size + 1, 0, none⟩ (.int .i64 8)) (w.heap.size + 1) TE (.int .i64 8) := (boxed_other h2 (by omega)).set _
      have hbb : Below w.heap.size w ((W.setCell ⟨w.heap.size, 0, none⟩ (.slice none 0 0)).setCell ⟨w.heap.size + 1, 0, none⟩ (.int .i64 8)) := (hli.2.2.2.2.2.setCell (by simp) _).setCell (by simp) _
      have HE := Lib.hid (And.intro hK2 (And.intro b1 (And.intro b2 hbb)))
      clear h1 h2 hli hK hK2 b1 b2 hbb hall hE
      go_wp2
      refine ⟨by simp, .inl ⟨_, _, rfl, run_takeDeferred HE.out.1, ?_⟩⟩
      exact ⟨_, ends7 _ _ _ _ (box_put HE.out.2.1 HE.out.1) (box_put HE.out.2.2.1 HE.out.1) rfl rfl, HE.out.2.2.2.grown (grownBy_putObj' _ D _) HE.out.2.2.2.size (fun k e => by cases e; omega), none, 0, rfl, fun _ => rfl, RdG.nilS _ _ _⟩
    | true =>
      rw [hall] at cb
      obtain ⟨hE, hS⟩ := listE_good HXS.out h16 hall
      obtain rfl : (0 : Int) = q := by rw [← HQ.out, hE]; rfl
      obtain rfl : ys.map lowP = l := by rw [← HL.out, hS]
      obtain ⟨A0, C0, rfl, hA0, hr0, _⟩ := own_any hli.2.2.2.2.1
      have hn := HN.out
      have ho := hli.2.2.2.2.1
      rw [hn] at hli cl ho
      have hK2 : ((W.setCell ⟨w.heap.size, 0, none⟩ (.slice A0 n C0)).setCell ⟨w.heap.size + 1, 0, none⟩ (.int .i64 0)).heap[D]? = some (.deferred (some [])) := ((heap_setCell_other _ _ _ _ (by simp; omega)).trans (heap_setCell_other _ _ _ _ (by simp; omega))).trans hK
      have b1 : Boxed ((W.setCell ⟨w.heap.size, 0, none⟩ (.slice A0 n C0)).setCell ⟨w.heap.size + 1, 0, none⟩ (.int .i64 0)) w.heap.size TS (.slice A0 n C0) := boxed_other (h1.set _) (by omega)
      have b2 : Boxed ((W.setCell ⟨w.heap.size, 0, none⟩ (.slice A0 n C0)).setCell ⟨w.heap.size + 1, 0, none⟩ (.int .i64 0)) (w.heap.size + 1) TE (.int .i64 0) := (boxed_other h2 (by omega)).set _
      have hbb : Below w.heap.size w ((W.setCell ⟨w.heap.size, 0, none⟩ (.slice A0 n C0)).setCell ⟨w.heap.size + 1, 0, none⟩ (.int .i64 0)) := (hli.2.2.2.2.2.setCell (by simp) _).setCell (by simp) _
      have hown : ((W.setCell ⟨w.heap.size, 0, none⟩ (.slice A0 n C0)).setCell ⟨w.heap.size + 1, 0, none⟩ (.int .i64 0)).ownsRow w.heap.size TT 1 (.slice A0 n C0) n ((ys.map lowP).map encS) :=
        own_box (own_box ho h1 (by decide) _) (boxed_other h2 (by omega)) (by decide) _
      have HO := Lib.hid hown
      have HE := Lib.hid (And.intro hK2 (And.intro b1 (And.intro b2 hbb)))
      have HA0 := Lib.hid hA0
      clear hn ho h1 h2 hli hK hK2 b1 b2 hbb hall hE hS hown hr0 hA0
      go_wp2
      refine ⟨by simp, .inl ⟨_, _, rfl, run_takeDeferred HE.out.1, ?_⟩⟩
      refine ⟨_, ends7 _ _ _ _ (box_put HE.out.2.1 HE.out.1) (box_put HE.out.2.2.1 HE.out.1) rfl rfl, HE.out.2.2.2.grown (grownBy_putObj' _ D _) HE.out.2.2.2.size (fun k e => by cases e; omega), A0, C0, rfl, HA0.out, ?_⟩
      exact (RdG.of_own (ownsRow_putObj HO.out _ HE.out.1 rfl)).1
  case stop =>
    rintro D c pre W hD hpre ⟨⟨rfl, h16⟩, h1, h2, h3⟩ hK
    have hlen : 16 < xs.length := Nat.lt_of_lt_of_le h16 hpre.length_le
    have hE := listE_many HXS.out hlen
    obtain rfl : (4 : Int) = q := by rw [← HQ.out, hE]; rfl
    obtain rfl : [] = l := by rw [← HL.out, listS_nil s (by rw [hE]; decide)]
    obtain rfl : 0 = n := HN.out
    have HE := Lib.hid (And.intro hK (And.intro h1 (And.intro h2 h3)))
    clear h1 h2 h3 hK hE hlen
    refine wpIn_wide.2 ?_
    go_wp2
    refine ⟨by simp, .inl ⟨_, _, rfl, run_takeDeferred HE.out.1, ?_⟩⟩
    exact ⟨_, ends7 _ _ _ _ (box_put HE.out.2.1 HE.out.1) (box_put HE.out.2.2.1 HE.out.1) rfl rfl, HE.out.2.2.2.grown (grownBy_putObj' _ D _) HE.out.2.2.2.size (fun k e => by cases e; omega), none, 0, rfl, fun _ => rfl, RdG.nilS _ _ _⟩
end Hx
end Go.Proofs.Ytncklfmpnbdmcaa
