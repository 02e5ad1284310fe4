/-
  Texts of one seat, put together: HedF, HedK, RegZ, HedG.
-/
import Derived.Test.YtfdhogaknlabkaaG13
import Derived.ScopeJumps
import Derived.Test.YtfdhogaknlabkaaG06
import Derived.OrdersHeld
import Derived.Deep.RegionHeld3
set_option linter.unusedSimpArgs false
set_option linter.unusedVariables false
namespace Go.Proofs.Ytfdhogaknlabkaa
open Go.RowKit Go.Shelf
namespace Hx
open Lx Hd
set_option linter.unusedVariables false
attribute [local go_sem] Oper.semAt_some
abbrev TPs : TypeId := 28
abbrev TPr : TypeId := 25
/-- Parse's variables. -/
def PI (w : World) (v : Value) (L : List PB) (W : World) : Prop :=
  Boxed W w.heap.size TPs v ∧ Boxed W (w.heap.size + 1) TE (.int .i64 0) ∧ W.ownsRow w.heap.size TPr 2 v L.length (L.flatMap prCells) ∧ Below w.heap.size w W
def PX (w : World) (W : World) : Prop := Boxed W (w.heap.size + 1) TE (.int .i64 140) ∧ Below w.heap.size w W
theorem PI.below {w W V : World} {v : Value} {L : List PB} (h : PI w v L W) (hb : Below W.heap.size W V) : PI w v L V := by
  obtain ⟨h1, h2, h5, h6⟩ := h
  exact ⟨boxed_below h1 hb, boxed_below h2 hb, own_belowK h5 hb (Nat.le_refl _), stp h6 hb⟩
theorem PI.bad {w W : World} {v : Value} {L : List PB} (h : PI w v L W) : PX w (W.setCell ⟨w.heap.size + 1, 0, none⟩ (.int .i64 140)) ∧ KeepsOthers W (W.setCell ⟨w.heap.size + 1, 0, none⟩ (.int .i64 140)) := by
  obtain ⟨h1, h2, h5, h6⟩ := h
  exact ⟨⟨h2.set _, h6.setCell (by simp) _⟩, KeepsOthers.setCell _ _ _⟩
theorem PI.push {w W w1 : World} {v v' : Value} {L : List PB} {u x : ByteArray} {tmp : Obj} {k : Nat} (h : PI w v L W) (hk : L.length = k) (hown : w1.ownsRow w.heap.size TPr 2 v' (k + 1) (L.flatMap prCells ++ [.string u, .string x])) (hg : (W.alloc tmp).grownBy w1 v.ownBlock) :
    Boxed w1 w.heap.size TPs v ∧ PI w v' (L ++ [(u, x)]) (w1.setCell ⟨w.heap.size, 0, none⟩ v') ∧ KeepsOthers W (w1.setCell ⟨w.heap.size, 0, none⟩ v') := by
  subst hk
  obtain ⟨h1, h2, h5, h6⟩ := h
  obtain ⟨b1, b2, b3, b4, b5⟩ := h1.appended (by decide) h5 h6.size (by omega) hown hg
  refine ⟨b1, ⟨b2, ?_, ?_, h6.trans b5⟩, b4⟩
  · exact boxed_other ((h2.alloc tmp).kept hg (h2.not_row (by decide) h5)) (by omega)
  · rw [List.length_append, cells_snoc]
    exact b3
theorem PI.own {w : World} {β : Type} (B : Nat) (hB : w.heap.size + 1 < B) (p : β → Prop) (f : β → List PB → Prop) : OwnFrom B (fun s W => p s ∧ ∃ L v, f s L ∧ PI w v L W) := by
  rintro s X Y row ⟨hp, L, v, hf, h1, h2, h5, h6⟩ hg hrow
  have ne : ∀ C, C ≤ w.heap.size + 1 → some C ≠ row := fun C hC e => by have := (hrow C e.symm).1; omega
  refine ⟨hp, L, v, hf, h1.kept hg (ne _ (by omega)), h2.kept hg (ne _ (by omega)), h5.kept hg ?_, h6.grown hg h6.size fun r e => by have := (hrow r e).1; omega⟩
  rcases h5.2 with ⟨rfl, _⟩ | ⟨gg, cap, cur, rfl, _, hgb, _⟩
  · exact .inl rfl
  · refine .inr fun e' => ?_
    obtain ⟨_, o, ho, hc⟩ := hrow gg (by simpa [Value.ownBlock] using e'.symm)
    rw [hgb] at ho; cases ho; cases hc
theorem PX.own {w : World} {β : Type} (B : Nat) (hB : w.heap.size + 1 < B) (p : β → Prop) : OwnFrom B (fun s W => p s ∧ PX w W) := by
  rintro s X Y row ⟨hp, h2, h6⟩ hg hrow
  have ne : ∀ C, C ≤ w.heap.size + 1 → some C ≠ row := fun C hC e => by have := (hrow C e.symm).1; omega
  exact ⟨hp, h2.kept hg (ne _ (by omega)), h6.grown hg h6.size fun r e => by have := (hrow r e).1; omega⟩
theorem endsP (tmps : Array Value) (V : World) {v : Value} {m : Int} (p2 : tmps.getD 2 undef = v) (p3 : tmps.getD 3 undef = .int .i64 m) :
    (results Try.f13 tmps).run Try.prog V = .ok (.tuple #[v, .int .i64 m]) V := by
  simp only [Array.getD_eq_getD_getElem?] at p2 p3
  simp [results, Try.results13, go_sem, p2, p3]
/-- Where a jump to the end comes from: ahead of the lines, or out of them. -/
def PJ0 (w : World) (a : Act) (V : World) : Prop := ∃ (x0 x1 x2 x3 x6 x7 x8 x9 x10 x11 x12 x13 x14 x15 x16 x17 x18 x19 x20 x21 x22 x23 x24 x25 x26 x27 x28 x29 x30 x31 x32 x33 x34 x35 x36 x37 x38 : Value), a = { tmps := #[x0, x1, x2, x3, .pointer (some ⟨w.heap.size, 0, none⟩), .pointer (some ⟨w.heap.size + 1, 0, none⟩), x6, x7, x8, x9, x10, x11, x12, x13, x14, x15, x16, x17, x18, x19, x20, x21, x22, x23, x24, x25, x26, x27, x28, x29, x30, x31, x32, x33, x34, x35, x36, x37, x38], defers := [] } ∧ Boxed V (w.heap.size + 1) TE (.int .i64 4) ∧ Below w.heap.size w V
def PJ1 (w : World) (a : Act) (V : World) : Prop := ∃ (x0 x1 x2 x3 x6 x7 x8 x9 x10 x11 x12 x13 x14 x15 x16 x17 x18 x19 x20 x21 x22 x23 x24 x25 x26 x27 x28 x29 x30 x31 x32 x33 x34 x35 x36 x37 x38 : Value) (D : Nat), a = { tmps := #[x0, x1, x2, x3, .pointer (some ⟨w.heap.size, 0, none⟩), .pointer (some ⟨w.heap.size + 1, 0, none⟩), x6, x7, x8, x9, x10, x11, x12, x13, x14, x15, x16, x17, x18, x19, x20, x21, x22, x23, x24, x25, x26, x27, x28, x29, x30, x31, x32, x33, x34, x35, x36, x37, x38], defers := [{ target := .collected D, args := #[] }] } ∧ Boxed V (w.heap.size + 1) TE (.int .i64 140) ∧ Below w.heap.size w V ∧ V.heap[D]? = some (.deferred (some [])) ∧ w.heap.size + 1 < D
set_option maxHeartbeats 8000000 in
set_option maxRecDepth 100000 in
theorem parse14_big (s : ByteArray) (w : World) (hm : s.size ≤ 1000000) (hbig : 16384 < s.size) : Calls Try.prog 13 #[.string s] w (HParseTo [] 4 w) := by
  have d0 : decide ((16384 : Int) < (s.size : Int)) = true := decide_eq_true (by omega)
  clear hm hbig
  refine (callsIn_wide (n := 9)).1 ?_
  refine callsIn_of_wp_marks Try.func13 rfl trivial ?_ rfl
  simp only [Try.ntmps13, List.size_toArray, List.length_cons, List.length_nil, Nat.reduceAdd, Nat.reduceSub, Array.replicate_succ, Array.replicate_zero, List.push_toArray, List.append_toArray, List.nil_append, List.cons_append]
  refine wpIn_wide.2 ?_
  go_wp2_with fail
  refine wp_scope_jumps 0 (PJ0 w) (fun _ _ => 0) (by rfl) ?first ?pass
  case first =>
    go_wp2_with fail
    refine wp_goto ?_
    refine ⟨rfl, _, _, _, _, _, _, _, _, _, _, _, _, _, _, _, _, _, _, _, _, _, _, _, _, _, _, _, _, _, _, _, _, _, _, _, _, _, rfl, ?_, ?_⟩
    · have := Boxed.new (w.alloc (.cells #[.slice none 0 0] TPs)) TE (.int .i64 4)
      rw [World.size_alloc] at this
      exact this
    · exact stpA (stpA (Below.refl _ _) _) _
  case pass =>
    rintro a V ⟨x0, x1, x2, x3, x6, x7, x8, x9, x10, x11, x12, x13, x14, x15, x16, x17, x18, x19, x20, x21, x22, x23, x24, x25, x26, x27, x28, x29, x30, x31, x32, x33, x34, x35, x36, x37, x38, rfl, h2, h6⟩
    have e0 := h2.cell
    have HB := Lib.hid h6
    clear h6
    go_wp2_with fail
    try refine wp_label ?_
    go_wp2_with fail
    go_region
    go_wp2_with fail
    show bodyPostM _ _ _ _ _ .ret _ _
    exact ⟨_, endsP _ _ rfl rfl, below_drewN HB.out 1, none, 0, rfl, Nat.le_refl _, Nat.zero_le _, fun _ => rfl, RdC.nil _ _ _⟩
/-- What holds between rounds of a yield: the library's number stays one. -/
theorem KpM.put (W : World) (l : Nat) (o o' : Obj) (h : W.heap[l]? = some o) (hc : o.isCells = false) : KpM W (W.putObj l o') := by
  rintro ⟨m, hm⟩
  have hne : 0 ≠ l := by
    rintro rfl
    simp only [World.cell?, h] at hm
    cases o <;> simp_all [Obj.isCells]
  refine ⟨m, ?_⟩
  have e : (W.putObj l o').heap[0]? = W.heap[0]? := World.putObj_heap_other hne
  simp only [World.cell?, e] at hm ⊢
  exact hm
theorem body_goto {w W W1 : World} (hk : KeepsOthers W W1) (ho : PX w W1) {p : Prop} (hp : p) : KeepsOthers W W1 ∧ (p ∧ PX w W1) := ⟨hk, hp, ho⟩
set_option maxHeartbeats 16000000 in
set_option maxRecDepth 100000 in
theorem parse14_small (s : ByteArray) (ps : List Pr) (q : Int) (w : World) (hx : Mx w) (hm : s.size ≤ 1000000) (hs : s.size ≤ 16384) (h : parseH s.data.toList = (ps, q)) : Calls Try.prog 13 #[.string s] w (HParseTo ps q w) := by
  obtain ⟨i0, hi, hz0, hz1, hz2⟩ := info_parts infoPr
  have HI := Lib.hid hi
  have HZ0 := Lib.hid hz0
  have HZ1 := Lib.hid hz1
  have HZ2 := Lib.hid hz2
  have hlen := linesF_len (s.data.toList.length + 1) s.data.toList
  obtain ⟨xs, hxs⟩ := lns_of (linesT s.data.toList) (fun p hp => by have := hlen.2 p hp; rw [ba_l] at this; omega)
  have HXS := Lib.hid hxs
  have hxn : xs.length ≤ 16384 := by
    have h1 := congrArg List.length hxs
    rw [List.length_map] at h1
    have h2 : (linesT s.data.toList).length ≤ s.data.toList.length := hlen.1
    rw [ba_l] at h2
    omega
  have HXN := Lib.hid hxn
  have HM := Lib.hid hm
  have HMX := Lib.hid hx
  have HQ : Hid ((allL s.data.toList = none → ps = [] ∧ q = 140) ∧ (∀ qs : List Pr, allL s.data.toList = some qs → 32 < qs.length → ps = [] ∧ q = 4) ∧ (∀ qs : List Pr, allL s.data.toList = some qs → ¬ 32 < qs.length → ps = qs ∧ q = 0)) := Lib.hid (by
    unfold parseH at h
    rw [ba_l, if_neg (by omega)] at h
    refine ⟨fun ha => ?_, fun qs ha hl => ?_, fun qs ha hl => ?_⟩
    · rw [ha] at h
      obtain ⟨e1, e2⟩ := (Prod.mk.injEq _ _ _ _).mp h
      exact ⟨e1.symm, e2.symm⟩
    · rw [ha] at h
      dsimp only at h
      rw [if_pos hl] at h
      obtain ⟨e1, e2⟩ := (Prod.mk.injEq _ _ _ _).mp h
      exact ⟨e1.symm, e2.symm⟩
    · rw [ha] at h
      dsimp only at h
      rw [if_neg hl] at h
      obtain ⟨e1, e2⟩ := (Prod.mk.injEq _ _ _ _).mp h
      exact ⟨e1.symm, e2.symm⟩)
  have d0 : decide ((16384 : Int) < (s.size : Int)) = false := decide_eq_false (by omega)
  have HW0 : Hid (w.heap.size ≤ w.heap.size) := Lib.hid (Nat.le_refl _)
  clear hm hs h hx hi hz0 hz1 hz2 hxs hxn hlen
  refine (callsIn_wide (n := 9)).1 ?_
  refine callsIn_of_wp_marks Try.func13 rfl trivial ?_ rfl
  simp only [Try.ntmps13, List.size_toArray, List.length_cons, List.length_nil, Nat.reduceAdd, Nat.reduceSub, Array.replicate_succ, Array.replicate_zero, List.push_toArray, List.append_toArray, List.nil_append, List.cons_append]
  refine wpIn_wide.2 ?_
  go_wp2_with fail
  refine wp_scope_jumps 0 (fun a V => PJ1 w a V ∧ ps = [] ∧ q = 140) (fun _ _ => 0) (by rfl) ?first ?pass
  case pass =>
    rintro a V ⟨⟨x0, x1, x2, x3, x6, x7, x8, x9, x10, x11, x12, x13, x14, x15, x16, x17, x18, x19, x20, x21, x22, x23, x24, x25, x26, x27, x28, x29, x30, x31, x32, x33, x34, x35, x36, x37, x38, D, rfl, h2, h6, hK, hD⟩, rfl, rfl⟩
    have e0 := h2.cell
    have HB := Lib.hid h6
    have HK := Lib.hid hK
    have HD := Lib.hid hD
    clear h6 hK hD
    go_wp2_with fail
    try refine wp_label ?_
    go_wp2_with fail
    go_region
    go_wp2_with fail
    show bodyPostM _ _ _ _ _ .ret _ _
    refine ⟨by simp, .inl ⟨_, _, rfl, run_takeDeferred HK.out, ?_⟩⟩
    exact ⟨_, endsP _ _ rfl rfl, (below_drewN HB.out 1).grown (grownBy_putObj' _ D _) (show w.heap.size ≤ V.heap.size from HB.out.size) (fun k e => by cases e; have := HD.out; omega), none, 0, rfl, Nat.le_refl _, Nat.zero_le _, fun _ => rfl, RdC.nil _ _ _⟩
  case first =>
    go_wp2_with (first
      | (go_at_call 33; (with_reducible refine (lines_any s _).mono ?_); rintro e w1 ⟨rfl, rfl⟩)
      | fail)
    obtain ⟨W7, hW7⟩ : ∃ W7, (((w.alloc (.cells #[.slice none 0 0] TPs)).alloc (.cells #[.int .i64 0] TE)).alloc (.cells #[.string s] TT)) = W7 := ⟨_, rfl⟩
    rw [hW7]
    have hs7 : W7.heap.size = w.heap.size + 1 + 1 + 1 := by rw [← hW7]; simp
    have hb7 : Below w.heap.size w W7 := by rw [← hW7]; exact stpA (stpA (stpA (Below.refl _ _) _) _) _
    have hp7 : PI w (.slice none 0 0) [] W7 := by
      refine ⟨?_, ?_, World.ownsRow_nil _ _ _ _, hb7⟩
      · rw [← hW7]
        exact ((Boxed.new w TPs _).alloc _).alloc _
      · rw [← hW7]
        have := Boxed.new (w.alloc (.cells #[.slice none 0 0] TPs)) TE (.int .i64 0)
        rw [World.size_alloc] at this
        exact this.alloc _
    have hc7 : W7.cell? ⟨w.heap.size + 1 + 1, 0, none⟩ = some (.string s) := by
      rw [← hW7]
      have := Boxed.new ((w.alloc (.cells #[.slice none 0 0] TPs)).alloc (.cells #[.int .i64 0] TE)) TT (.string s)
      rw [World.size_alloc, World.size_alloc] at this
      exact this.cell
    have HX7 : Hid (Mx W7) := Lib.hid (HMX.out.below hb7)
    clear hW7
    refine (wpIn_wide (n := 9)).1 ?_
    refine wpIn_rangeFunc_ownF (F := Fence.wide) (n := 9) rfl (by decide) (gf := 54) (lb := #[.pointer (some ⟨w.heap.size + 1 + 1, 0, none⟩)]) rfl trivial (enters_of Try.func54 (by kernel_rfl) rfl)
      (encs := fun x : Ln => #[.string x.1.1, .bool x.1.2]) (Kp := KpM) (S := fun ys => ys = xs) (Sp := fun pre => pre <+: xs) (N := xs.length) (w0 := W7) ?hseq (fun h k => fun hm => k (h hm)) (fun W l o o' _ h1 h2 _ => KpM.put W l o o' h1 h2) (Below.refl _ _) (fun _ => rfl)
      (fun pre W => True ∧ ∃ L v, allOf (pre.map lnVal) = some (L.map prVal) ∧ PI w v L W) (fun c pre W => (c = .goto 0 ∧ allOf (pre.map lnVal) = none) ∧ PX w W)
      (PI.own W7.heap.size (by omega) (fun _ : List Ln => True) (fun pre L => allOf (pre.map lnVal) = some (L.map prVal)))
      (fun c => PX.own W7.heap.size (by omega) (fun pre : List Ln => c = .goto 0 ∧ allOf (pre.map lnVal) = none)) ⟨trivial, [], _, rfl, hp7⟩
      (fun x => { tmps := #[.string s, undef, .slice none 0 0, .int .i64 0, .pointer (some ⟨w.heap.size, 0, none⟩), .pointer (some ⟨w.heap.size + 1, 0, none⟩), .string x.1.1, .bool x.1.2, undef, undef, .string s, .int .i64 s.size, .bool false, .string s, .func (.func 54) #[] #[.pointer (some ⟨w.heap.size + 1 + 1, 0, none⟩)], .string x.1.1, .bool x.1.2, undef, undef, undef, undef, undef, undef, undef, undef, undef, undef, undef, undef, undef, undef, undef, undef, undef, undef, undef, undef, undef, undef], defers := [] }) ?assign ?body ?done ?stop
    case hseq =>
      intro l J Jx W hW hJ hJx hY h0
      exact lines1_in 8 (by decide) l _ s xs HM.out HXS.out J Jx (fun ys A B h hb => hJ ys A B none h ⟨hb.os, hb.tape, hb.output, hb.size, fun k hk _ => hb.block k hk⟩ (fun r e => by cases e)) hY W (HX7.out.below hW) ((hW.cell (p := ⟨w.heap.size + 1 + 1, 0, none⟩) (by show w.heap.size + 1 + 1 < _; omega)).trans hc7) h0
    case assign =>
      intro l x W K hK
      gi_wp2
      exact hK
    case body =>
      rintro lp pre x W ⟨_, L, v, hall, hli⟩ hlt
      have HALL := Lib.hid hall
      have HLI := Lib.hid hli
      have hb0 := hli.1.cell
      have he0 := hli.2.1.cell
      have hf0 := hli.2.1.frozen
      have hll := allOf_len hall
      rw [List.length_map, List.length_map] at hll
      have HLN : Hid (L.length < 16384) := Lib.hid (by have := HXN.out; omega)
      obtain ⟨A0, C0, rfl⟩ := own_form2 hli.2.2.1
      obtain ⟨⟨y, be⟩, hy⟩ := x
      have HY : Hid (y.size ≤ 1000000) := Lib.hid hy
      clear hall hli hll hlt
      dsimp only
      cases hf : fieldL y.data.toList with
      | none =>
        have HD : Hid (∀ W, Calls Try.prog 34 #[.string y] W fun e w' => e = .returned (.tuple #[.agg #[.string ⟨#[]⟩, .string ⟨#[]⟩], .bool false]) ∧ Below W.heap.size W w') := Lib.hid fun W => (field14 y W HY.out).mono fun _ _ ht => fieldTo_none hf ht
        have HN : Hid (allOf ((pre ++ [(⟨(y, be), hy⟩ : Ln)]).map lnVal) = none) := Lib.hid (by
          rw [List.map_append]
          refine allOf_snoc_none HALL.out ?_
          show (if be = true then fieldL y.data.toList else none) = none
          rw [hf]
          split <;> rfl)
        clear hf
        cases be <;>
        · gi_wp2_with (first
            | (refine ⟨trivial, ?_⟩; gi_at_call 34; refine (CallsIn.inRound lp (callsIn_wide.2 (HD.out W))).mono ?_; rintro e w3 ⟨rfl, hb3⟩; have HB3 := Lib.hid (stpA hb3 (.cells #[.string ⟨#[]⟩, .string ⟨#[]⟩] TPr)); have HL3 := Lib.hid (HLI.out.below HB3.out); have c3 := HL3.out.2.1.cell; have f3 := HL3.out.2.1.frozen; clear hb3)
            | fail)
          refine wpIn_goto ?_
          exact ⟨(keeps_below7 HB3.out).trans HL3.out.bad.2, ⟨rfl, HN.out⟩, HL3.out.bad.1⟩
      | some p =>
        obtain ⟨u, x, rfl⟩ := prs p
        have HD : Hid (∀ W, Calls Try.prog 34 #[.string y] W fun e w' => e = .returned (.tuple #[.agg #[.string u, .string x], .bool true]) ∧ Below W.heap.size W w') := Lib.hid fun W => (field14 y W HY.out).mono fun _ _ ht => fieldTo_some hf ht
        cases be with
        | false =>
          have HN : Hid (allOf ((pre ++ [(⟨(y, false), hy⟩ : Ln)]).map lnVal) = none) := Lib.hid (by
            rw [List.map_append]
            exact allOf_snoc_none HALL.out rfl)
          clear hf
          gi_wp2_with (first
            | (refine ⟨trivial, ?_⟩; gi_at_call 34; refine (CallsIn.inRound lp (callsIn_wide.2 (HD.out W))).mono ?_; rintro e w3 ⟨rfl, hb3⟩; have HB3 := Lib.hid (stpA hb3 (.cells #[.string u, .string x] TPr)); have HL3 := Lib.hid (HLI.out.below HB3.out); have c3 := HL3.out.2.1.cell; have f3 := HL3.out.2.1.frozen; clear hb3)
            | fail)
          refine wpIn_goto ?_
          exact ⟨(keeps_below7 HB3.out).trans HL3.out.bad.2, ⟨rfl, HN.out⟩, HL3.out.bad.1⟩
        | true =>
          have HN : Hid (allOf ((pre ++ [(⟨(y, true), hy⟩ : Ln)]).map lnVal) = some ((L ++ [(u, x)]).map prVal)) := Lib.hid (by
            rw [List.map_append, List.map_append]
            exact allOf_snoc_some HALL.out hf)
          obtain ⟨m, hmm⟩ : ∃ m, L.length = m := ⟨_, rfl⟩
          have HMM := Lib.hid hmm
          rw [hmm] at HLI HLN hb0
          clear hf hmm
          gi_wp2_with (first
            | (refine ⟨trivial, ?_⟩; gi_at_call 34; refine (CallsIn.inRound lp (callsIn_wide.2 (HD.out W))).mono ?_; rintro e w3 ⟨rfl, hb3⟩; have HB3 := Lib.hid (stpA hb3 (.cells #[.string u, .string x] TPr)); have HL3 := Lib.hid (HLI.out.below HB3.out); have c3 := HL3.out.1.cell; have G3 := Lib.hid (heap_alloc_new w3 (.cells #[.string u, .string x] TPr)); have Z3 := Lib.hid ((HLI.out.below hb3).2.2.2.size); have o3 := HL3.out.2.2.1; rw [HMM.out] at o3; have O3 := Lib.hid (own_belowK o3 (stpA (Below.refl _ _) (.cells #[.string u, .string x] TPr)) (Nat.le_refl _)); clear hb3 o3)
            | (refine wpListIn_load_row rfl _ _ rfl w3.heap.size rfl TPr #[.string u, .string x] (0, 0) _ G3.out Try.underlying25 rfl sizePr ?_)
            | (gi_at_builtin; refine wpListIn_append_own _ rfl (.tmp 28) (.tmp 30) 28 rfl w.heap.size 25 i0 (.agg #[.string ⟨#[]⟩, .string ⟨#[]⟩]) 2 32 Try.underlying28 HI.out HZ0.out HZ1.out HZ2.out rfl (by decide) _ m _ rfl O3.out ⟨w3.heap.size + 1, 0, none⟩ 1 1 [.string u, .string x] rfl rfl (new_at (w3.alloc (.cells #[.string u, .string x] TPr)) [.string u, .string x] TPr _ (World.size_alloc _ _)) (by simp [Value.oneCell']) (by have := HLN.out; unfold maxLen; omega) (by have := HLN.out; omega) (by rw [World.size_alloc, World.size_alloc]; have := Z3.out; omega) ?_; intro v6 w6 hown6 hgr6 _; obtain ⟨A6, C6, rfl⟩ := own_form2 hown6; obtain ⟨b6, hL7, hK7⟩ := HL3.out.push HMM.out hown6 hgr6; have c6 := b6.cell; have f6 := b6.frozen; have HL7 := Lib.hid hL7; have HK7 := Lib.hid hK7; clear hL7 hK7 hown6 hgr6 b6)
            | fail)
          exact ⟨(keeps_below7 HB3.out).trans HK7.out, fun hm => HMX.out.below HL7.out.2.2.2, trivial, _, _, HN.out, HL7.out⟩
    case done =>
      rintro D ys W hD rfl ⟨_, L, v, hall, hli⟩ hK
      have hD2 : w.heap.size + 1 < D := by omega
      have c0 := hli.1.cell
      have f0 := hli.1.frozen
      have e0 := hli.2.1.cell
      have k0 := hli.2.1.frozen
      rw [HXS.out, allOf_T] at hall
      obtain ⟨A0, C0, rfl⟩ := own_form2 hli.2.2.1
      have HLI := Lib.hid hli
      have HK := Lib.hid hK
      obtain ⟨m, hmm⟩ : ∃ m, L.length = m := ⟨_, rfl⟩
      have HMM := Lib.hid hmm
      rw [hmm] at c0
      by_cases hmany : 32 < m
      · obtain ⟨rfl, rfl⟩ := HQ.out.2.1 _ hall (by rw [List.length_map, hmm]; exact hmany)
        have d1 : decide ((32 : Int) < (m : Int)) = true := decide_eq_true (by omega)
        have hK2 : (W.setCell ⟨w.heap.size + 1, 0, none⟩ (.int .i64 4)).heap[D]? = some (.deferred (some [])) := (heap_setCell_other _ _ _ _ (by simp; omega)).trans hK
        have k4 : (W.setCell ⟨w.heap.size + 1, 0, none⟩ (.int .i64 4)).cell? ⟨w.heap.size + 1, 0, none⟩ = some (.int .i64 4) := (hli.2.1.set _).cell
        have HK2 := Lib.hid hK2
        clear hli hK hall hmany hmm hK2
        go_wp2_with fail
        try refine wp_label ?_
        go_wp2_with fail
        go_region
        go_wp2_with fail
        show bodyPostM _ _ _ _ _ .ret _ _
        refine ⟨by simp, .inl ⟨_, _, rfl, run_takeDeferred HK2.out, ?_⟩⟩
        exact ⟨_, endsP _ _ rfl rfl, (below_drewN (HLI.out.2.2.2.setCell (by simp) _) 1).grown (grownBy_putObj' _ D _) (show w.heap.size ≤ (W.setCell ⟨w.heap.size + 1, 0, none⟩ (.int .i64 4)).heap.size from (HLI.out.2.2.2.setCell (by simp) _).size) (fun k e => by cases e; omega), none, 0, rfl, Nat.le_refl _, Nat.zero_le _, fun _ => rfl, RdC.nil _ _ _⟩
      · obtain ⟨rfl, rfl⟩ := HQ.out.2.2 _ hall (by rw [List.length_map, hmm]; exact hmany)
        have d1 : decide ((32 : Int) < (m : Int)) = false := decide_eq_false (by omega)
        clear hli hK hall hmany hmm
        go_wp2_with fail
        try refine wp_label ?_
        go_wp2_with fail
        show bodyPostM _ _ _ _ _ .ret _ _
        refine ⟨by simp, .inl ⟨_, _, rfl, run_takeDeferred HK.out, ?_⟩⟩
        have hown := own_attrs (HMM.out ▸ ownsRow_putObj HLI.out.2.2.1 (.deferred none) HK.out rfl)
        refine ⟨_, endsP _ _ rfl rfl, HLI.out.2.2.2.grown (grownBy_putObj' _ D _) HLI.out.2.2.2.size (fun k e => by cases e; omega), A0, C0, by rw [List.length_map, HMM.out]; rfl, ?_⟩
        rw [List.length_map, HMM.out]
        exact ⟨hown.2.2.1, hown.2.2.2.1, hown.2.2.2.2, hown.1⟩
    case stop =>
      rintro D c pre W hD hpre ⟨⟨rfl, hno⟩, hpx⟩ hK
      have hall : allL s.data.toList = none := by
        rw [← allOf_T, ← HXS.out]
        exact allOf_pre hno (hpre.map _)
      obtain ⟨e1, e2⟩ := HQ.out.1 hall
      refine wpIn_wide.2 (wp_goto ⟨rfl, ⟨_, _, _, _, _, _, _, _, _, _, _, _, _, _, _, _, _, _, _, _, _, _, _, _, _, _, _, _, _, _, _, _, _, _, _, _, _, D, rfl, hpx.1, hpx.2, hK, by omega⟩, e1, e2⟩)
theorem parse14 (s : ByteArray) (ps : List Pr) (q : Int) (w : World) (hx : Mx w) (hm : s.size ≤ 1000000) (h : parseH s.data.toList = (ps, q)) : Calls Try.prog 13 #[.string s] w (HParseTo ps q w) := by
  by_cases hs : s.size ≤ 16384
  · exact parse14_small s ps q w hx hm hs h
  · unfold parseH at h
    rw [ba_l, if_pos (by omega)] at h
    obtain ⟨rfl, rfl⟩ := (Prod.mk.injEq _ _ _ _).mp h
    exact parse14_big s w hm (by omega)
end Hx
end Go.Proofs.Ytfdhogaknlabkaa
namespace Go.Proofs.Ytfdhogaknlabkaa
open Go.RowKit
namespace Hx
open Lx Hd
section
variable {H : Type} {enc : TypeId × Value → H}
theorem cells_two14 : Try.prog.cellsOf 9 = 1 ∧ Try.prog.cellsOf 25 = 2 := ⟨by kernel_rfl, by kernel_rfl⟩
theorem opens_pair14 : Opens enc Try.prog PrC 25 := fun W sp held fuel cs x h => by
  obtain ⟨c1, c2⟩ := cells_two14
  obtain ⟨xs, n, _, _, hl, hx, hf⟩ := DataW.trod_struct Try.underlying25 h
  rw [c2] at hl
  obtain ⟨a, b, rfl⟩ := two_of hl
  have h0 : DataW.trod enc Try.prog W 0 sp held n 9 (([a, b].drop 0).take (Try.prog.cellsOf 9)) = xs[0]? := hf 0 _ rfl
  have h1 : DataW.trod enc Try.prog W 0 sp held n 9 (([a, b].drop 1).take (Try.prog.cellsOf 9)) = xs[1]? := hf 1 _ rfl
  have hx2 : xs.length = 2 := hx
  simp only [c1, List.drop_zero, List.drop_succ_cons, List.take_succ_cons, List.take_zero] at h0 h1
  obtain ⟨s, e1, _⟩ := DataW.trod_string Try.underlying9 (h0.trans (List.getElem?_eq_getElem (by omega)))
  obtain ⟨t, e2, _⟩ := DataW.trod_string Try.underlying9 (h1.trans (List.getElem?_eq_getElem (by omega)))
  obtain ⟨rfl, _⟩ := List.cons.inj e1
  obtain ⟨rfl, _⟩ := List.cons.inj e2
  exact ⟨⟨_, _⟩, s, t, rfl, rfl, rfl⟩
theorem opens_pairs14 : Opens enc Try.prog (SlC PrC) 28 := Opens.slice Try.underlying28 cells_two14.2 (by decide) opens_pair14
end
theorem parse_wrap {l : List UInt8} {ps : List Pr} {q : Int} (h : parseH l = (ps, q)) : IntKind.i64.wrap q = q ∧ ps.length ≤ 32 := by
  have h1 := parse_lits l
  rw [h] at h1
  dsimp only at h1
  rcases h1 with rfl | ⟨rfl, rfl⟩ | ⟨rfl, rfl⟩
  · exact ⟨rfl, (parse_ok h).2.1⟩
  · exact ⟨rfl, by simp⟩
  · exact ⟨rfl, by simp⟩
end Hx
end Go.Proofs.Ytfdhogaknlabkaa
namespace Go.Proofs.Ytfdhogaknlabkaa
namespace Hx
open Go
section
variable {P : Program} {ops : Array Oper} {Q : Exit → Act → World → Prop} {md : Region.Mode} {S : World → Prop} {z : Nat}
/-- Whatever order is picked from here on; S holds behind every operation but number z. -/
def wpAnyZ (P : Program) (md : Region.Mode) (ops : Array Oper) (Q : Exit → Act → World → Prop) (S : World → Prop) (z : Nat) : Nat → Array Bool → Act → World → Prop
  | 0, listed, a, w => Region.ready md ops listed = [] ∧ Q .normal a w
  | fuel + 1, listed, a, w =>
    (Region.ready md ops listed = [] → Q .normal a w) ∧
    ∀ i ∈ Region.ready md ops listed, wpOp P ops Q i (fun a' w' => (i ≠ z → S w') ∧ wpAnyZ P md ops Q S z fuel (listed.setIfInBounds i true) a' w') a w
theorem wpAny_of_Z : ∀ (fuel : Nat) (listed : Array Bool) (a : Act) (w : World), wpAnyZ P md ops Q S z fuel listed a w → wpAny P md ops Q fuel listed a w
  | 0, _, _, _, h => h
  | fuel + 1, _, _, _, h => ⟨h.1, fun i hi => wpOp_mono (fun a' w' h' => wpAny_of_Z fuel _ a' w' h'.2) (h.2 i hi)⟩
theorem wpAnyZ_first {i : Nat} {oi : Oper} {v : Value} (hi : ops[i]? = some oi) (hsel : ∀ (j : Nat) (o : Oper) cs b, ops[j]? = some o → o.op ≠ .select cs b)
    (hQ : ∀ c a w, Q (.panic c) (a.put oi.dst v) w → Q (.panic c) a w) (hz : ∀ oz, ops[z]? = some oz → ∃ e ∈ oz.after, Region.binds md e = true ∧ e.on = i) :
    ∀ (fuel : Nat) (listed : Array Bool) (a : Act) (w : World),
      (∀ j oj, ops[j]? = some oj → j ≠ i → listed.getD j true = false → (∀ e ∈ oj.after, Region.binds md e = true → e.on ≠ i) → oi.apart ops oj = true) →
      i ∈ Region.ready md ops listed → YieldsIf P ops S oi v a → S w →
      wpAnyZ P md ops Q S z fuel (listed.setIfInBounds i true) (a.put oi.dst v) w → wpAnyZ P md ops Q S z (fuel + 1) listed a w := by
  intro fuel
  induction fuel with
  | zero =>
    intro listed a w _ hr hy hS H
    refine ⟨fun h => (by rw [h] at hr; cases hr), fun j hj => ?_⟩
    by_cases hji : j = i
    · subst hji; exact hy.wpOp hi hS ⟨fun _ => hS, H⟩
    · have := ready_mono hj hji
      rw [H.1] at this
      cases this
  | succ fuel ih =>
    intro listed a w hfree hr hy hS H
    refine ⟨fun h => (by rw [h] at hr; cases hr), fun j hj => ?_⟩
    by_cases hji : j = i
    · subst hji; exact hy.wpOp hi hS ⟨fun _ => hS, H⟩
    · have h1 := H.2 j (ready_mono hj hji)
      obtain ⟨hjun, oj, hoj, hall⟩ := mem_ready.1 hj
      have hnot : ∀ e ∈ oj.after, Region.binds md e = true → e.on ≠ i := fun e he hb heq => by
        have h1 := hall e he hb
        have h0 := (mem_ready.1 hr).1
        rw [heq] at h1
        rcases Nat.lt_or_ge i listed.size with h' | h'
        · simp [h'] at h0 h1; rw [h0] at h1; cases h1
        · simp [Array.getElem?_eq_none h'] at h1
      have hjz : j ≠ z := by
        rintro rfl
        obtain ⟨e, he, hb, heq⟩ := hz oj hoj
        exact hnot e he hb heq
      have h2 := wpOp_putIf hoj (hfree j oj hoj hji hjun hnot) (fun cs b => hsel i oi cs b hi) (fun cs b => hsel j oj cs b hoj) hQ hy h1
      have hfree' : ∀ k ok, ops[k]? = some ok → k ≠ i → (listed.setIfInBounds j true).getD k true = false →
          (∀ e ∈ ok.after, Region.binds md e = true → e.on ≠ i) → oi.apart ops ok = true := fun k ok hk hki hun hno => by
        refine hfree k ok hk hki ?_ hno
        by_cases hjk : j = k
        · subst hjk; exact hjun
        · rw [getD_set_ne true hjk] at hun; exact hun
      refine wpOp_mono (fun a' w' h3 => ⟨fun _ => h3.2.1 hjz, ih (listed.setIfInBounds j true) a' w' hfree' (ready_mono hr (Ne.symm hji)) h3.1 (h3.2.1 hjz) ?_⟩) h2
      rw [Array.setIfInBounds_comm _ _ hji]
      exact h3.2.2
/-- One operation that yields in every world that meets S, taken first; the operation written out. -/
theorem takeZ {i : Nat} {oi : Oper} {rest : List Oper} {v : Value} {fuel : Nat} {listed : Array Bool} {a : Act} {w : World} (hd : ops.toList.drop i = oi :: rest)
    (hs : Region.noSelect ops = true) (hf : Region.free md ops listed i = true) (hr : (Region.ready md ops listed).contains i = true)
    (hz : ((ops[z]?).map fun o => o.after.any fun e => Region.binds md e && e.on == i) = some true)
    (hQ : ∀ c a w, Q (.panic c) (a.put oi.dst v) w → Q (.panic c) a w) (hy : YieldsIf P ops S oi v a) (hS : S w)
    (h : wpAnyZ P md ops Q S z fuel (listed.setIfInBounds i true) (a.put oi.dst v) w) : wpAnyZ P md ops Q S z (fuel + 1) listed a w := by
  have hi : ops[i]? = some oi := by
    have e : (ops.toList.drop i)[0]? = some oi := by rw [hd]; rfl
    rw [List.getElem?_drop, Nat.add_zero] at e
    simpa using e
  refine wpAnyZ_first hi (Region.noSelect_spec hs) hQ (fun oz hoz => ?_) fuel listed a w (Region.free_spec hi hf) (by simpa using hr) hy hS h
  rw [hoz] at hz
  simp only [Option.map_some, Option.some.injEq, Array.any_eq_true] at hz
  obtain ⟨k, hk, he⟩ := hz
  rw [Bool.and_eq_true, beq_iff_eq] at he
  exact ⟨_, Array.getElem_mem hk, he.1, he.2⟩
/-- .. shortly told. -/
theorem tkZ {i : Nat} {oi : Oper} {rest : List Oper} {v : Value} {fuel : Nat} {listed : Array Bool} {a : Act} {w : World} (hd : ops.toList.drop i = oi :: rest) (hy : YieldsIf P ops S oi v a) (hS : S w)
    (h : wpAnyZ P md ops Q S z fuel (listed.setIfInBounds i true) (a.put oi.dst v) w)
    (hs : Region.noSelect ops = true := by kernel_rfl) (hf : Region.free md ops listed i = true := by kernel_rfl) (hr : (Region.ready md ops listed).contains i = true := by kernel_rfl)
    (hz : ((ops[z]?).map fun o => o.after.any fun e => Region.binds md e && e.on == i) = some true := by kernel_rfl)
    (hQ : ∀ c a w, Q (.panic c) (a.put oi.dst v) w → Q (.panic c) a w := by exact fun _ _ _ h => h) : wpAnyZ P md ops Q S z (fuel + 1) listed a w :=
  takeZ hd hs hf hr hz hQ hy hS h
/-- One operation that alone may come up; behind it S is shown anew, but behind the last one. -/
theorem stepZ {i : Nat} {oi : Oper} {rest : List Oper} {fuel : Nat} {listed : Array Bool} {a : Act} {w : World} (hr : Region.ready md ops listed = [i]) (hd : ops.toList.drop i = oi :: rest)
    (h : ∀ K' : Act → World → Prop, Shut (∀ a w, (i ≠ z → S w) → ((i ≠ z → S w) → wpAnyZ P md ops Q S z fuel (listed.setIfInBounds i true) a w) → K' a w) → if Region.wanted oi (yielded ops a.tmps) = true then Oper.wp P oi a w K' Q else K' (a.put oi.dst undef) w) :
    wpAnyZ P md ops Q S z (fuel + 1) listed a w := by
  have hi : ops[i]? = some oi := by
    have e : (ops.toList.drop i)[0]? = some oi := by rw [hd]; rfl
    rw [List.getElem?_drop, Nat.add_zero] at e
    simpa using e
  refine ⟨fun h0 => (by rw [hr] at h0; cases h0), fun j hj => ?_⟩
  rw [hr] at hj
  obtain rfl : j = i := by simpa using hj
  have := h (fun a' w' => (j ≠ z → S w') ∧ wpAnyZ P md ops Q S z fuel (listed.setIfInBounds j true) a' w') (fun a w hS hk => ⟨hS, hk hS⟩)
  unfold wpOp
  simp only [hi]
  by_cases hw : Region.wanted oi (yielded ops a.tmps) = true
  · rw [if_pos hw] at this ⊢
    exact .inl this
  · rw [if_neg hw] at this ⊢
    exact this
theorem doneZ {listed : Array Bool} {a : Act} {w : World} (hr : Region.ready md ops listed = []) (h : Q .normal a w) : ∀ fuel, wpAnyZ P md ops Q S z fuel listed a w
  | 0 => ⟨hr, h⟩
  | _ + 1 => ⟨fun _ => h, by rw [hr]; simp⟩
theorem wp_region_Z {id : Nat} {a : Act} {w : World} (S : World → Prop) (z : Nat) (hm : P.follows .mixedOrders = true)
    (h : wpAnyZ P .any ops Q S z ops.size (Array.replicate ops.size false) a w.drew) : (Code.region id ops true).wp P Q a w :=
  wp_region_any hm (wpAny_of_Z _ _ _ _ h)
end
end Hx
end Go.Proofs.Ytfdhogaknlabkaa
namespace Go.Proofs.Ytfdhogaknlabkaa
open Go.RowKit
namespace Hx
open Lx Hd
set_option linter.unusedVariables false
theorem BelowG {B : Nat} {a b c : World} (h : Below B a b) (hB : B ≤ a.heap.size) (k : Below b.heap.size b c) : Below B a c := h.trans (k.mono (Nat.le_trans hB h.size))
set_option maxHeartbeats 8000000 in
set_option maxRecDepth 100000 in
theorem rmay14_0 (x y : ByteArray) (w : World) (hx : x.size ≤ 1000000) (hy : y.size ≤ 1000000) (h1 : As.isTok x.data.toList = false) : Calls Try.prog 44 #[.agg #[.string x, .string y]] w fun e w' => e = .returned (.bool false) ∧ Below w.heap.size w w' := by
  have HK : Hid (∀ W, Below (w.heap.size + 1) (w.alloc (.cells #[.string x, .string y] 25)) W → W.cell? ⟨w.heap.size, 0, none⟩ = some (.string x) ∧ W.cell? ⟨w.heap.size, 1, none⟩ = some (.string y)) := Lib.hid fun W hW =>
    ⟨(hW.cell (p := ⟨w.heap.size, 0, none⟩) (Nat.lt_succ_self _)).trans (cellV _ _ 0 _ _ _ (heap_alloc_new w _)), (hW.cell (p := ⟨w.heap.size, 1, none⟩) (Nat.lt_succ_self _)).trans (cellV _ _ 1 _ _ _ (heap_alloc_new w _))⟩
  have G0 : Hid (Below (w.heap.size + 1) (w.alloc (.cells #[.string x, .string y] 25)) (w.alloc (.cells #[.string x, .string y] 25)).drew) := Lib.hid (Below.refl _ _).drew
  have HF : Hid (∀ W, Below (w.heap.size + 1) (w.alloc (.cells #[.string x, .string y] 25)) W → Below w.heap.size w W) := Lib.hid fun W hW => (stpA (Below.refl _ _) _).trans (hW.mono (Nat.le_succ _))
  have HX := Lib.hid hx
  have HY := Lib.hid hy
  have H1 := Lib.hid h1
  clear hx hy h1
  go_enter Try.func44, Try.ntmps44
  go_wp2_with fail
  refine wp_region_noPanic ?_
  refine wp_region_Z (fun W => W.cell? ⟨w.heap.size, 0, none⟩ = some (.string x) ∧ W.cell? ⟨w.heap.size, 1, none⟩ = some (.string y)) 24 (by kernel_rfl) ?_
  have hS0 : (w.alloc (.cells #[.string x, .string y] 25)).drew.cell? ⟨w.heap.size, 0, none⟩ = some (.string x) ∧ (w.alloc (.cells #[.string x, .string y] 25)).drew.cell? ⟨w.heap.size, 1, none⟩ = some (.string y) := HK.out _ G0.out
  refine takeZ (i := 0) (v := .pointer (some ⟨w.heap.size, 0, none⟩)) rfl (by kernel_rfl) (by kernel_rfl) (by kernel_rfl) (by kernel_rfl) (fun _ _ _ h => h) (Or.inl ⟨by rfl, ?_⟩) hS0 ?_
  · intro w' hSw; (try dsimp only at hSw); go_simp
  try simp only [Act.put, List.setIfInBounds_toArray, List.set_cons_zero, List.set_cons_succ]
  refine takeZ (i := 1) (v := .string x) rfl (by kernel_rfl) (by kernel_rfl) (by kernel_rfl) (by kernel_rfl) (fun _ _ _ h => h) (Or.inl ⟨by rfl, ?_⟩) hS0 ?_
  · intro w' hSw; (try dsimp only at hSw); go_simp
  try simp only [Act.put, List.setIfInBounds_toArray, List.set_cons_zero, List.set_cons_succ]
  refine stepZ (i := 2) (by kernel_rfl) rfl (fun K hK => ?_)
  go_simp
  go_at_call 49
  (with_reducible refine (rtoken7 x false _ HX.out H1.out).mono ?_)
  rintro e1 w1 ⟨rfl, hb1⟩
  have G1 := Lib.hid (BelowG G0.out (by simp) hb1)
  have hS1 : w1.cell? ⟨w.heap.size, 0, none⟩ = some (.string x) ∧ w1.cell? ⟨w.heap.size, 1, none⟩ = some (.string y) := HK.out _ G1.out
  clear hb1
  go_wp2_with fail
  refine hK.out _ _ (fun _ => hS1) (fun _ => ?_)
  clear hK K hS0
  try simp only [Act.put, List.setIfInBounds_toArray, List.set_cons_zero, List.set_cons_succ]
  refine takeZ (i := 3) (v := .bool false) rfl (by kernel_rfl) (by kernel_rfl) (by kernel_rfl) (by kernel_rfl) (fun _ _ _ h => h) (Or.inl ⟨by rfl, ?_⟩) hS1 ?_
  · intro w' hSw; (try dsimp only at hSw); go_simp
  try simp only [Act.put, List.setIfInBounds_toArray, List.set_cons_zero, List.set_cons_succ]
  refine takeZ (i := 4) (v := undef) rfl (by kernel_rfl) (by kernel_rfl) (by kernel_rfl) (by kernel_rfl) (fun _ _ _ h => h) (Or.inr ⟨by rfl, rfl⟩) hS1 ?_
  try simp only [Act.put, List.setIfInBounds_toArray, List.set_cons_zero, List.set_cons_succ]
  refine takeZ (i := 5) (v := undef) rfl (by kernel_rfl) (by kernel_rfl) (by kernel_rfl) (by kernel_rfl) (fun _ _ _ h => h) (Or.inr ⟨by rfl, rfl⟩) hS1 ?_
  try simp only [Act.put, List.setIfInBounds_toArray, List.set_cons_zero, List.set_cons_succ]
  refine takeZ (i := 7) (v := undef) rfl (by kernel_rfl) (by kernel_rfl) (by kernel_rfl) (by kernel_rfl) (fun _ _ _ h => h) (Or.inr ⟨by rfl, rfl⟩) hS1 ?_
  try simp only [Act.put, List.setIfInBounds_toArray, List.set_cons_zero, List.set_cons_succ]
  refine takeZ (i := 8) (v := undef) rfl (by kernel_rfl) (by kernel_rfl) (by kernel_rfl) (by kernel_rfl) (fun _ _ _ h => h) (Or.inr ⟨by rfl, rfl⟩) hS1 ?_
  try simp only [Act.put, List.setIfInBounds_toArray, List.set_cons_zero, List.set_cons_succ]
  refine stepZ (i := 6) (by kernel_rfl) rfl (fun K hK => ?_)
  go_simp
  refine hK.out _ _ (fun _ => hS1) (fun _ => ?_)
  clear hK K
  try simp only [Act.put, List.setIfInBounds_toArray, List.set_cons_zero, List.set_cons_succ]
  refine takeZ (i := 9) (v := undef) rfl (by kernel_rfl) (by kernel_rfl) (by kernel_rfl) (by kernel_rfl) (fun _ _ _ h => h) (Or.inr ⟨by rfl, rfl⟩) hS1 ?_
  try simp only [Act.put, List.setIfInBounds_toArray, List.set_cons_zero, List.set_cons_succ]
  refine takeZ (i := 10) (v := .bool false) rfl (by kernel_rfl) (by kernel_rfl) (by kernel_rfl) (by kernel_rfl) (fun _ _ _ h => h) (Or.inl ⟨by rfl, ?_⟩) hS1 ?_
  · intro w' hSw; (try dsimp only at hSw); go_simp
  try simp only [Act.put, List.setIfInBounds_toArray, List.set_cons_zero, List.set_cons_succ]
  refine takeZ (i := 11) (v := .bool false) rfl (by kernel_rfl) (by kernel_rfl) (by kernel_rfl) (by kernel_rfl) (fun _ _ _ h => h) (Or.inl ⟨by rfl, ?_⟩) hS1 ?_
  · intro w' hSw; (try dsimp only at hSw); go_simp
  try simp only [Act.put, List.setIfInBounds_toArray, List.set_cons_zero, List.set_cons_succ]
  refine takeZ (i := 12) (v := undef) rfl (by kernel_rfl) (by kernel_rfl) (by kernel_rfl) (by kernel_rfl) (fun _ _ _ h => h) (Or.inr ⟨by rfl, rfl⟩) hS1 ?_
  try simp only [Act.put, List.setIfInBounds_toArray, List.set_cons_zero, List.set_cons_succ]
  refine takeZ (i := 13) (v := undef) rfl (by kernel_rfl) (by kernel_rfl) (by kernel_rfl) (by kernel_rfl) (fun _ _ _ h => h) (Or.inr ⟨by rfl, rfl⟩) hS1 ?_
  try simp only [Act.put, List.setIfInBounds_toArray, List.set_cons_zero, List.set_cons_succ]
  refine stepZ (i := 14) (by kernel_rfl) rfl (fun K hK => ?_)
  go_simp
  refine hK.out _ _ (fun _ => hS1) (fun _ => ?_)
  clear hK K
  try simp only [Act.put, List.setIfInBounds_toArray, List.set_cons_zero, List.set_cons_succ]
  refine takeZ (i := 15) (v := .bool false) rfl (by kernel_rfl) (by kernel_rfl) (by kernel_rfl) (by kernel_rfl) (fun _ _ _ h => h) (Or.inl ⟨by rfl, ?_⟩) hS1 ?_
  · intro w' hSw; (try dsimp only at hSw); go_simp
  try simp only [Act.put, List.setIfInBounds_toArray, List.set_cons_zero, List.set_cons_succ]
  refine takeZ (i := 16) (v := .bool false) rfl (by kernel_rfl) (by kernel_rfl) (by kernel_rfl) (by kernel_rfl) (fun _ _ _ h => h) (Or.inl ⟨by rfl, ?_⟩) hS1 ?_
  · intro w' hSw; (try dsimp only at hSw); go_simp
  try simp only [Act.put, List.setIfInBounds_toArray, List.set_cons_zero, List.set_cons_succ]
  refine takeZ (i := 17) (v := undef) rfl (by kernel_rfl) (by kernel_rfl) (by kernel_rfl) (by kernel_rfl) (fun _ _ _ h => h) (Or.inr ⟨by rfl, rfl⟩) hS1 ?_
  try simp only [Act.put, List.setIfInBounds_toArray, List.set_cons_zero, List.set_cons_succ]
  refine takeZ (i := 18) (v := undef) rfl (by kernel_rfl) (by kernel_rfl) (by kernel_rfl) (by kernel_rfl) (fun _ _ _ h => h) (Or.inr ⟨by rfl, rfl⟩) hS1 ?_
  try simp only [Act.put, List.setIfInBounds_toArray, List.set_cons_zero, List.set_cons_succ]
  refine takeZ (i := 20) (v := undef) rfl (by kernel_rfl) (by kernel_rfl) (by kernel_rfl) (by kernel_rfl) (fun _ _ _ h => h) (Or.inr ⟨by rfl, rfl⟩) hS1 ?_
  try simp only [Act.put, List.setIfInBounds_toArray, List.set_cons_zero, List.set_cons_succ]
  refine takeZ (i := 21) (v := undef) rfl (by kernel_rfl) (by kernel_rfl) (by kernel_rfl) (by kernel_rfl) (fun _ _ _ h => h) (Or.inr ⟨by rfl, rfl⟩) hS1 ?_
  try simp only [Act.put, List.setIfInBounds_toArray, List.set_cons_zero, List.set_cons_succ]
  refine stepZ (i := 19) (by kernel_rfl) rfl (fun K hK => ?_)
  go_simp
  refine hK.out _ _ (fun _ => hS1) (fun _ => ?_)
  clear hK K
  try simp only [Act.put, List.setIfInBounds_toArray, List.set_cons_zero, List.set_cons_succ]
  refine takeZ (i := 22) (v := undef) rfl (by kernel_rfl) (by kernel_rfl) (by kernel_rfl) (by kernel_rfl) (fun _ _ _ h => h) (Or.inr ⟨by rfl, rfl⟩) hS1 ?_
  try simp only [Act.put, List.setIfInBounds_toArray, List.set_cons_zero, List.set_cons_succ]
  refine takeZ (i := 23) (v := .bool false) rfl (by kernel_rfl) (by kernel_rfl) (by kernel_rfl) (by kernel_rfl) (fun _ _ _ h => h) (Or.inl ⟨by rfl, ?_⟩) hS1 ?_
  · intro w' hSw; (try dsimp only at hSw); go_simp
  try simp only [Act.put, List.setIfInBounds_toArray, List.set_cons_zero, List.set_cons_succ]
  refine stepZ (i := 24) (by kernel_rfl) rfl (fun K hK => ?_)
  go_simp
  refine hK.out _ _ (fun h => absurd rfl h) (fun _ => ?_)
  clear hK K
  try simp only [Act.put, List.setIfInBounds_toArray, List.set_cons_zero, List.set_cons_succ]
  refine doneZ (by kernel_rfl) ?_ _
  refine NoPanic.normal ?_
  go_wp2_with fail
  go_ret
  exact ⟨rfl, HF.out _ G1.out⟩
set_option maxHeartbeats 8000000 in
set_option maxRecDepth 100000 in
theorem rmay14_1 (x y u : ByteArray) (w : World) (hx : x.size ≤ 1000000) (hy : y.size ≤ 1000000) (h1 : As.isTok x.data.toList = true)(h2 : lowS x = u) (e1 : (u.toList == x.toList) = false) : Calls Try.prog 44 #[.agg #[.string x, .string y]] w fun e w' => e = .returned (.bool false) ∧ Below w.heap.size w w' := by
  have HK : Hid (∀ W, Below (w.heap.size + 1) (w.alloc (.cells #[.string x, .string y] 25)) W → W.cell? ⟨w.heap.size, 0, none⟩ = some (.string x) ∧ W.cell? ⟨w.heap.size, 1, none⟩ = some (.string y)) := Lib.hid fun W hW =>
    ⟨(hW.cell (p := ⟨w.heap.size, 0, none⟩) (Nat.lt_succ_self _)).trans (cellV _ _ 0 _ _ _ (heap_alloc_new w _)), (hW.cell (p := ⟨w.heap.size, 1, none⟩) (Nat.lt_succ_self _)).trans (cellV _ _ 1 _ _ _ (heap_alloc_new w _))⟩
  have G0 : Hid (Below (w.heap.size + 1) (w.alloc (.cells #[.string x, .string y] 25)) (w.alloc (.cells #[.string x, .string y] 25)).drew) := Lib.hid (Below.refl _ _).drew
  have HF : Hid (∀ W, Below (w.heap.size + 1) (w.alloc (.cells #[.string x, .string y] 25)) W → Below w.heap.size w W) := Lib.hid fun W hW => (stpA (Below.refl _ _) _).trans (hW.mono (Nat.le_succ _))
  have HX := Lib.hid hx
  have HY := Lib.hid hy
  have H1 := Lib.hid h1
  have H2 := Lib.hid h2
  clear hx hy h1 h2
  go_enter Try.func44, Try.ntmps44
  go_wp2_with fail
  refine wp_region_noPanic ?_
  refine wp_region_Z (fun W => W.cell? ⟨w.heap.size, 0, none⟩ = some (.string x) ∧ W.cell? ⟨w.heap.size, 1, none⟩ = some (.string y)) 24 (by kernel_rfl) ?_
  have hS0 : (w.alloc (.cells #[.string x, .string y] 25)).drew.cell? ⟨w.heap.size, 0, none⟩ = some (.string x) ∧ (w.alloc (.cells #[.string x, .string y] 25)).drew.cell? ⟨w.heap.size, 1, none⟩ = some (.string y) := HK.out _ G0.out
  refine takeZ (i := 0) (v := .pointer (some ⟨w.heap.size, 0, none⟩)) rfl (by kernel_rfl) (by kernel_rfl) (by kernel_rfl) (by kernel_rfl) (fun _ _ _ h => h) (Or.inl ⟨by rfl, ?_⟩) hS0 ?_
  · intro w' hSw; (try dsimp only at hSw); go_simp
  try simp only [Act.put, List.setIfInBounds_toArray, List.set_cons_zero, List.set_cons_succ]
  refine takeZ (i := 1) (v := .string x) rfl (by kernel_rfl) (by kernel_rfl) (by kernel_rfl) (by kernel_rfl) (fun _ _ _ h => h) (Or.inl ⟨by rfl, ?_⟩) hS0 ?_
  · intro w' hSw; (try dsimp only at hSw); go_simp
  try simp only [Act.put, List.setIfInBounds_toArray, List.set_cons_zero, List.set_cons_succ]
  refine stepZ (i := 2) (by kernel_rfl) rfl (fun K hK => ?_)
  go_simp
  go_at_call 49
  (with_reducible refine (rtoken7 x true _ HX.out H1.out).mono ?_)
  rintro e1 w1 ⟨rfl, hb1⟩
  have G1 := Lib.hid (BelowG G0.out (by simp) hb1)
  have hS1 : w1.cell? ⟨w.heap.size, 0, none⟩ = some (.string x) ∧ w1.cell? ⟨w.heap.size, 1, none⟩ = some (.string y) := HK.out _ G1.out
  clear hb1
  go_wp2_with fail
  refine hK.out _ _ (fun _ => hS1) (fun _ => ?_)
  clear hK K hS0
  try simp only [Act.put, List.setIfInBounds_toArray, List.set_cons_zero, List.set_cons_succ]
  refine takeZ (i := 3) (v := .bool true) rfl (by kernel_rfl) (by kernel_rfl) (by kernel_rfl) (by kernel_rfl) (fun _ _ _ h => h) (Or.inl ⟨by rfl, ?_⟩) hS1 ?_
  · intro w' hSw; (try dsimp only at hSw); go_simp
  try simp only [Act.put, List.setIfInBounds_toArray, List.set_cons_zero, List.set_cons_succ]
  refine takeZ (i := 4) (v := .pointer (some ⟨w.heap.size, 0, none⟩)) rfl (by kernel_rfl) (by kernel_rfl) (by kernel_rfl) (by kernel_rfl) (fun _ _ _ h => h) (Or.inl ⟨by rfl, ?_⟩) hS1 ?_
  · intro w' hSw; (try dsimp only at hSw); go_simp
  try simp only [Act.put, List.setIfInBounds_toArray, List.set_cons_zero, List.set_cons_succ]
  refine takeZ (i := 5) (v := .string x) rfl (by kernel_rfl) (by kernel_rfl) (by kernel_rfl) (by kernel_rfl) (fun _ _ _ h => h) (Or.inl ⟨by rfl, ?_⟩) hS1 ?_
  · intro w' hSw; (try dsimp only at hSw); go_simp
  try simp only [Act.put, List.setIfInBounds_toArray, List.set_cons_zero, List.set_cons_succ]
  refine takeZ (i := 7) (v := .pointer (some ⟨w.heap.size, 0, none⟩)) rfl (by kernel_rfl) (by kernel_rfl) (by kernel_rfl) (by kernel_rfl) (fun _ _ _ h => h) (Or.inl ⟨by rfl, ?_⟩) hS1 ?_
  · intro w' hSw; (try dsimp only at hSw); go_simp
  try simp only [Act.put, List.setIfInBounds_toArray, List.set_cons_zero, List.set_cons_succ]
  refine takeZ (i := 8) (v := .string x) rfl (by kernel_rfl) (by kernel_rfl) (by kernel_rfl) (by kernel_rfl) (fun _ _ _ h => h) (Or.inl ⟨by rfl, ?_⟩) hS1 ?_
  · intro w' hSw; (try dsimp only at hSw); go_simp
  try simp only [Act.put, List.setIfInBounds_toArray, List.set_cons_zero, List.set_cons_succ]
  refine stepZ (i := 6) (by kernel_rfl) rfl (fun K hK => ?_)
  go_simp
  go_at_call 50
  (with_reducible refine (rlower7 x u _ HX.out H2.out).mono ?_)
  rintro e2 w2 ⟨rfl, hb2⟩
  have G2 := Lib.hid (BelowG G1.out (by simp) hb2)
  have hS2 : w2.cell? ⟨w.heap.size, 0, none⟩ = some (.string x) ∧ w2.cell? ⟨w.heap.size, 1, none⟩ = some (.string y) := HK.out _ G2.out
  clear hb2
  go_wp2_with fail
  refine hK.out _ _ (fun _ => hS2) (fun _ => ?_)
  clear hK K hS1
  try simp only [Act.put, List.setIfInBounds_toArray, List.set_cons_zero, List.set_cons_succ]
  refine takeZ (i := 9) (v := .bool false) rfl (by kernel_rfl) (by kernel_rfl) (by kernel_rfl) (by kernel_rfl) (fun _ _ _ h => h) (Or.inl ⟨by rfl, ?_⟩) hS2 ?_
  · intro w' hSw; (try dsimp only at hSw); go_simp
  try simp only [Act.put, List.setIfInBounds_toArray, List.set_cons_zero, List.set_cons_succ]
  refine takeZ (i := 10) (v := .bool false) rfl (by kernel_rfl) (by kernel_rfl) (by kernel_rfl) (by kernel_rfl) (fun _ _ _ h => h) (Or.inl ⟨by rfl, ?_⟩) hS2 ?_
  · intro w' hSw; (try dsimp only at hSw); go_simp
  try simp only [Act.put, List.setIfInBounds_toArray, List.set_cons_zero, List.set_cons_succ]
  refine takeZ (i := 11) (v := .bool false) rfl (by kernel_rfl) (by kernel_rfl) (by kernel_rfl) (by kernel_rfl) (fun _ _ _ h => h) (Or.inl ⟨by rfl, ?_⟩) hS2 ?_
  · intro w' hSw; (try dsimp only at hSw); go_simp
  try simp only [Act.put, List.setIfInBounds_toArray, List.set_cons_zero, List.set_cons_succ]
  refine takeZ (i := 12) (v := undef) rfl (by kernel_rfl) (by kernel_rfl) (by kernel_rfl) (by kernel_rfl) (fun _ _ _ h => h) (Or.inr ⟨by rfl, rfl⟩) hS2 ?_
  try simp only [Act.put, List.setIfInBounds_toArray, List.set_cons_zero, List.set_cons_succ]
  refine takeZ (i := 13) (v := undef) rfl (by kernel_rfl) (by kernel_rfl) (by kernel_rfl) (by kernel_rfl) (fun _ _ _ h => h) (Or.inr ⟨by rfl, rfl⟩) hS2 ?_
  try simp only [Act.put, List.setIfInBounds_toArray, List.set_cons_zero, List.set_cons_succ]
  refine stepZ (i := 14) (by kernel_rfl) rfl (fun K hK => ?_)
  go_simp
  refine hK.out _ _ (fun _ => hS2) (fun _ => ?_)
  clear hK K
  try simp only [Act.put, List.setIfInBounds_toArray, List.set_cons_zero, List.set_cons_succ]
  refine takeZ (i := 15) (v := .bool false) rfl (by kernel_rfl) (by kernel_rfl) (by kernel_rfl) (by kernel_rfl) (fun _ _ _ h => h) (Or.inl ⟨by rfl, ?_⟩) hS2 ?_
  · intro w' hSw; (try dsimp only at hSw); go_simp
  try simp only [Act.put, List.setIfInBounds_toArray, List.set_cons_zero, List.set_cons_succ]
  refine takeZ (i := 16) (v := .bool false) rfl (by kernel_rfl) (by kernel_rfl) (by kernel_rfl) (by kernel_rfl) (fun _ _ _ h => h) (Or.inl ⟨by rfl, ?_⟩) hS2 ?_
  · intro w' hSw; (try dsimp only at hSw); go_simp
  try simp only [Act.put, List.setIfInBounds_toArray, List.set_cons_zero, List.set_cons_succ]
  refine takeZ (i := 17) (v := undef) rfl (by kernel_rfl) (by kernel_rfl) (by kernel_rfl) (by kernel_rfl) (fun _ _ _ h => h) (Or.inr ⟨by rfl, rfl⟩) hS2 ?_
  try simp only [Act.put, List.setIfInBounds_toArray, List.set_cons_zero, List.set_cons_succ]
  refine takeZ (i := 18) (v := undef) rfl (by kernel_rfl) (by kernel_rfl) (by kernel_rfl) (by kernel_rfl) (fun _ _ _ h => h) (Or.inr ⟨by rfl, rfl⟩) hS2 ?_
  try simp only [Act.put, List.setIfInBounds_toArray, List.set_cons_zero, List.set_cons_succ]
  refine takeZ (i := 20) (v := undef) rfl (by kernel_rfl) (by kernel_rfl) (by kernel_rfl) (by kernel_rfl) (fun _ _ _ h => h) (Or.inr ⟨by rfl, rfl⟩) hS2 ?_
  try simp only [Act.put, List.setIfInBounds_toArray, List.set_cons_zero, List.set_cons_succ]
  refine takeZ (i := 21) (v := undef) rfl (by kernel_rfl) (by kernel_rfl) (by kernel_rfl) (by kernel_rfl) (fun _ _ _ h => h) (Or.inr ⟨by rfl, rfl⟩) hS2 ?_
  try simp only [Act.put, List.setIfInBounds_toArray, List.set_cons_zero, List.set_cons_succ]
  refine stepZ (i := 19) (by kernel_rfl) rfl (fun K hK => ?_)
  go_simp
  refine hK.out _ _ (fun _ => hS2) (fun _ => ?_)
  clear hK K
  try simp only [Act.put, List.setIfInBounds_toArray, List.set_cons_zero, List.set_cons_succ]
  refine takeZ (i := 22) (v := undef) rfl (by kernel_rfl) (by kernel_rfl) (by kernel_rfl) (by kernel_rfl) (fun _ _ _ h => h) (Or.inr ⟨by rfl, rfl⟩) hS2 ?_
  try simp only [Act.put, List.setIfInBounds_toArray, List.set_cons_zero, List.set_cons_succ]
  refine takeZ (i := 23) (v := .bool false) rfl (by kernel_rfl) (by kernel_rfl) (by kernel_rfl) (by kernel_rfl) (fun _ _ _ h => h) (Or.inl ⟨by rfl, ?_⟩) hS2 ?_
  · intro w' hSw; (try dsimp only at hSw); go_simp
  try simp only [Act.put, List.setIfInBounds_toArray, List.set_cons_zero, List.set_cons_succ]
  refine stepZ (i := 24) (by kernel_rfl) rfl (fun K hK => ?_)
  go_simp
  refine hK.out _ _ (fun h => absurd rfl h) (fun _ => ?_)
  clear hK K
  try simp only [Act.put, List.setIfInBounds_toArray, List.set_cons_zero, List.set_cons_succ]
  refine doneZ (by kernel_rfl) ?_ _
  refine NoPanic.normal ?_
  go_wp2_with fail
  go_ret
  exact ⟨rfl, HF.out _ G2.out⟩
set_option maxHeartbeats 8000000 in
set_option maxRecDepth 100000 in
theorem rmay14_2 (x y u : ByteArray) (w : World) (hx : x.size ≤ 1000000) (hy : y.size ≤ 1000000) (h1 : As.isTok x.data.toList = true)(h2 : lowS x = u) (e1 : (u.toList == x.toList) = true)(h3 : As.plain y.data.toList = false) : Calls Try.prog 44 #[.agg #[.string x, .string y]] w fun e w' => e = .returned (.bool false) ∧ Below w.heap.size w w' := by
  have HK : Hid (∀ W, Below (w.heap.size + 1) (w.alloc (.cells #[.string x, .string y] 25)) W → W.cell? ⟨w.heap.size, 0, none⟩ = some (.string x) ∧ W.cell? ⟨w.heap.size, 1, none⟩ = some (.string y)) := Lib.hid fun W hW =>
    ⟨(hW.cell (p := ⟨w.heap.size, 0, none⟩) (Nat.lt_succ_self _)).trans (cellV _ _ 0 _ _ _ (heap_alloc_new w _)), (hW.cell (p := ⟨w.heap.size, 1, none⟩) (Nat.lt_succ_self _)).trans (cellV _ _ 1 _ _ _ (heap_alloc_new w _))⟩
  have G0 : Hid (Below (w.heap.size + 1) (w.alloc (.cells #[.string x, .string y] 25)) (w.alloc (.cells #[.string x, .string y] 25)).drew) := Lib.hid (Below.refl _ _).drew
  have HF : Hid (∀ W, Below (w.heap.size + 1) (w.alloc (.cells #[.string x, .string y] 25)) W → Below w.heap.size w W) := Lib.hid fun W hW => (stpA (Below.refl _ _) _).trans (hW.mono (Nat.le_succ _))
  have HX := Lib.hid hx
  have HY := Lib.hid hy
  have H1 := Lib.hid h1
  have H2 := Lib.hid h2
  have H3 := Lib.hid h3
  clear hx hy h1 h2 h3
  go_enter Try.func44, Try.ntmps44
  go_wp2_with fail
  refine wp_region_noPanic ?_
  refine wp_region_Z (fun W => W.cell? ⟨w.heap.size, 0, none⟩ = some (.string x) ∧ W.cell? ⟨w.heap.size, 1, none⟩ = some (.string y)) 24 (by kernel_rfl) ?_
  have hS0 : (w.alloc (.cells #[.string x, .string y] 25)).drew.cell? ⟨w.heap.size, 0, none⟩ = some (.string x) ∧ (w.alloc (.cells #[.string x, .string y] 25)).drew.cell? ⟨w.heap.size, 1, none⟩ = some (.string y) := HK.out _ G0.out
  refine takeZ (i := 0) (v := .pointer (some ⟨w.heap.size, 0, none⟩)) rfl (by kernel_rfl) (by kernel_rfl) (by kernel_rfl) (by kernel_rfl) (fun _ _ _ h => h) (Or.inl ⟨by rfl, ?_⟩) hS0 ?_
  · intro w' hSw; (try dsimp only at hSw); go_simp
  try simp only [Act.put, List.setIfInBounds_toArray, List.set_cons_zero, List.set_cons_succ]
  refine takeZ (i := 1) (v := .string x) rfl (by kernel_rfl) (by kernel_rfl) (by kernel_rfl) (by kernel_rfl) (fun _ _ _ h => h) (Or.inl ⟨by rfl, ?_⟩) hS0 ?_
  · intro w' hSw; (try dsimp only at hSw); go_simp
  try simp only [Act.put, List.setIfInBounds_toArray, List.set_cons_zero, List.set_cons_succ]
  refine stepZ (i := 2) (by kernel_rfl) rfl (fun K hK => ?_)
  go_simp
  go_at_call 49
  (with_reducible refine (rtoken7 x true _ HX.out H1.out).mono ?_)
  rintro e1 w1 ⟨rfl, hb1⟩
  have G1 := Lib.hid (BelowG G0.out (by simp) hb1)
  have hS1 : w1.cell? ⟨w.heap.size, 0, none⟩ = some (.string x) ∧ w1.cell? ⟨w.heap.size, 1, none⟩ = some (.string y) := HK.out _ G1.out
  clear hb1
  go_wp2_with fail
  refine hK.out _ _ (fun _ => hS1) (fun _ => ?_)
  clear hK K hS0
  try simp only [Act.put, List.setIfInBounds_toArray, List.set_cons_zero, List.set_cons_succ]
  refine takeZ (i := 3) (v := .bool true) rfl (by kernel_rfl) (by kernel_rfl) (by kernel_rfl) (by kernel_rfl) (fun _ _ _ h => h) (Or.inl ⟨by rfl, ?_⟩) hS1 ?_
  · intro w' hSw; (try dsimp only at hSw); go_simp
  try simp only [Act.put, List.setIfInBounds_toArray, List.set_cons_zero, List.set_cons_succ]
  refine takeZ (i := 4) (v := .pointer (some ⟨w.heap.size, 0, none⟩)) rfl (by kernel_rfl) (by kernel_rfl) (by kernel_rfl) (by kernel_rfl) (fun _ _ _ h => h) (Or.inl ⟨by rfl, ?_⟩) hS1 ?_
  · intro w' hSw; (try dsimp only at hSw); go_simp
  try simp only [Act.put, List.setIfInBounds_toArray, List.set_cons_zero, List.set_cons_succ]
  refine takeZ (i := 5) (v := .string x) rfl (by kernel_rfl) (by kernel_rfl) (by kernel_rfl) (by kernel_rfl) (fun _ _ _ h => h) (Or.inl ⟨by rfl, ?_⟩) hS1 ?_
  · intro w' hSw; (try dsimp only at hSw); go_simp
  try simp only [Act.put, List.setIfInBounds_toArray, List.set_cons_zero, List.set_cons_succ]
  refine takeZ (i := 7) (v := .pointer (some ⟨w.heap.size, 0, none⟩)) rfl (by kernel_rfl) (by kernel_rfl) (by kernel_rfl) (by kernel_rfl) (fun _ _ _ h => h) (Or.inl ⟨by rfl, ?_⟩) hS1 ?_
  · intro w' hSw; (try dsimp only at hSw); go_simp
  try simp only [Act.put, List.setIfInBounds_toArray, List.set_cons_zero, List.set_cons_succ]
  refine takeZ (i := 8) (v := .string x) rfl (by kernel_rfl) (by kernel_rfl) (by kernel_rfl) (by kernel_rfl) (fun _ _ _ h => h) (Or.inl ⟨by rfl, ?_⟩) hS1 ?_
  · intro w' hSw; (try dsimp only at hSw); go_simp
  try simp only [Act.put, List.setIfInBounds_toArray, List.set_cons_zero, List.set_cons_succ]
  refine stepZ (i := 6) (by kernel_rfl) rfl (fun K hK => ?_)
  go_simp
  go_at_call 50
  (with_reducible refine (rlower7 x u _ HX.out H2.out).mono ?_)
  rintro e2 w2 ⟨rfl, hb2⟩
  have G2 := Lib.hid (BelowG G1.out (by simp) hb2)
  have hS2 : w2.cell? ⟨w.heap.size, 0, none⟩ = some (.string x) ∧ w2.cell? ⟨w.heap.size, 1, none⟩ = some (.string y) := HK.out _ G2.out
  clear hb2
  go_wp2_with fail
  refine hK.out _ _ (fun _ => hS2) (fun _ => ?_)
  clear hK K hS1
  try simp only [Act.put, List.setIfInBounds_toArray, List.set_cons_zero, List.set_cons_succ]
  refine takeZ (i := 9) (v := .bool true) rfl (by kernel_rfl) (by kernel_rfl) (by kernel_rfl) (by kernel_rfl) (fun _ _ _ h => h) (Or.inl ⟨by rfl, ?_⟩) hS2 ?_
  · intro w' hSw; (try dsimp only at hSw); go_simp
  try simp only [Act.put, List.setIfInBounds_toArray, List.set_cons_zero, List.set_cons_succ]
  refine takeZ (i := 10) (v := .bool true) rfl (by kernel_rfl) (by kernel_rfl) (by kernel_rfl) (by kernel_rfl) (fun _ _ _ h => h) (Or.inl ⟨by rfl, ?_⟩) hS2 ?_
  · intro w' hSw; (try dsimp only at hSw); go_simp
  try simp only [Act.put, List.setIfInBounds_toArray, List.set_cons_zero, List.set_cons_succ]
  refine takeZ (i := 11) (v := .bool true) rfl (by kernel_rfl) (by kernel_rfl) (by kernel_rfl) (by kernel_rfl) (fun _ _ _ h => h) (Or.inl ⟨by rfl, ?_⟩) hS2 ?_
  · intro w' hSw; (try dsimp only at hSw); go_simp
  try simp only [Act.put, List.setIfInBounds_toArray, List.set_cons_zero, List.set_cons_succ]
  refine takeZ (i := 12) (v := .pointer (some ⟨w.heap.size, 1, none⟩)) rfl (by kernel_rfl) (by kernel_rfl) (by kernel_rfl) (by kernel_rfl) (fun _ _ _ h => h) (Or.inl ⟨by rfl, ?_⟩) hS2 ?_
  · intro w' hSw; (try dsimp only at hSw); go_simp
  try simp only [Act.put, List.setIfInBounds_toArray, List.set_cons_zero, List.set_cons_succ]
  refine takeZ (i := 13) (v := .string y) rfl (by kernel_rfl) (by kernel_rfl) (by kernel_rfl) (by kernel_rfl) (fun _ _ _ h => h) (Or.inl ⟨by rfl, ?_⟩) hS2 ?_
  · intro w' hSw; (try dsimp only at hSw); go_simp
  try simp only [Act.put, List.setIfInBounds_toArray, List.set_cons_zero, List.set_cons_succ]
  refine stepZ (i := 14) (by kernel_rfl) rfl (fun K hK => ?_)
  go_simp
  go_at_call 68
  (with_reducible refine (rplain7 y false _ HY.out H3.out).mono ?_)
  rintro e3 w3 ⟨rfl, hb3⟩
  have G3 := Lib.hid (BelowG G2.out (by simp) hb3)
  have hS3 : w3.cell? ⟨w.heap.size, 0, none⟩ = some (.string x) ∧ w3.cell? ⟨w.heap.size, 1, none⟩ = some (.string y) := HK.out _ G3.out
  clear hb3
  go_wp2_with fail
  refine hK.out _ _ (fun _ => hS3) (fun _ => ?_)
  clear hK K hS2
  try simp only [Act.put, List.setIfInBounds_toArray, List.set_cons_zero, List.set_cons_succ]
  refine takeZ (i := 15) (v := .bool false) rfl (by kernel_rfl) (by kernel_rfl) (by kernel_rfl) (by kernel_rfl) (fun _ _ _ h => h) (Or.inl ⟨by rfl, ?_⟩) hS3 ?_
  · intro w' hSw; (try dsimp only at hSw); go_simp
  try simp only [Act.put, List.setIfInBounds_toArray, List.set_cons_zero, List.set_cons_succ]
  refine takeZ (i := 16) (v := .bool false) rfl (by kernel_rfl) (by kernel_rfl) (by kernel_rfl) (by kernel_rfl) (fun _ _ _ h => h) (Or.inl ⟨by rfl, ?_⟩) hS3 ?_
  · intro w' hSw; (try dsimp only at hSw); go_simp
  try simp only [Act.put, List.setIfInBounds_toArray, List.set_cons_zero, List.set_cons_succ]
  refine takeZ (i := 17) (v := undef) rfl (by kernel_rfl) (by kernel_rfl) (by kernel_rfl) (by kernel_rfl) (fun _ _ _ h => h) (Or.inr ⟨by rfl, rfl⟩) hS3 ?_
  try simp only [Act.put, List.setIfInBounds_toArray, List.set_cons_zero, List.set_cons_succ]
  refine takeZ (i := 18) (v := undef) rfl (by kernel_rfl) (by kernel_rfl) (by kernel_rfl) (by kernel_rfl) (fun _ _ _ h => h) (Or.inr ⟨by rfl, rfl⟩) hS3 ?_
  try simp only [Act.put, List.setIfInBounds_toArray, List.set_cons_zero, List.set_cons_succ]
  refine takeZ (i := 20) (v := undef) rfl (by kernel_rfl) (by kernel_rfl) (by kernel_rfl) (by kernel_rfl) (fun _ _ _ h => h) (Or.inr ⟨by rfl, rfl⟩) hS3 ?_
  try simp only [Act.put, List.setIfInBounds_toArray, List.set_cons_zero, List.set_cons_succ]
  refine takeZ (i := 21) (v := undef) rfl (by kernel_rfl) (by kernel_rfl) (by kernel_rfl) (by kernel_rfl) (fun _ _ _ h => h) (Or.inr ⟨by rfl, rfl⟩) hS3 ?_
  try simp only [Act.put, List.setIfInBounds_toArray, List.set_cons_zero, List.set_cons_succ]
  refine stepZ (i := 19) (by kernel_rfl) rfl (fun K hK => ?_)
  go_simp
  refine hK.out _ _ (fun _ => hS3) (fun _ => ?_)
  clear hK K
  try simp only [Act.put, List.setIfInBounds_toArray, List.set_cons_zero, List.set_cons_succ]
  refine takeZ (i := 22) (v := undef) rfl (by kernel_rfl) (by kernel_rfl) (by kernel_rfl) (by kernel_rfl) (fun _ _ _ h => h) (Or.inr ⟨by rfl, rfl⟩) hS3 ?_
  try simp only [Act.put, List.setIfInBounds_toArray, List.set_cons_zero, List.set_cons_succ]
  refine takeZ (i := 23) (v := .bool false) rfl (by kernel_rfl) (by kernel_rfl) (by kernel_rfl) (by kernel_rfl) (fun _ _ _ h => h) (Or.inl ⟨by rfl, ?_⟩) hS3 ?_
  · intro w' hSw; (try dsimp only at hSw); go_simp
  try simp only [Act.put, List.setIfInBounds_toArray, List.set_cons_zero, List.set_cons_succ]
  refine stepZ (i := 24) (by kernel_rfl) rfl (fun K hK => ?_)
  go_simp
  refine hK.out _ _ (fun h => absurd rfl h) (fun _ => ?_)
  clear hK K
  try simp only [Act.put, List.setIfInBounds_toArray, List.set_cons_zero, List.set_cons_succ]
  refine doneZ (by kernel_rfl) ?_ _
  refine NoPanic.normal ?_
  go_wp2_with fail
  go_ret
  exact ⟨rfl, HF.out _ G3.out⟩
set_option maxHeartbeats 8000000 in
set_option maxRecDepth 100000 in
theorem rmay14_3 (x y u : ByteArray) (w : World) (hx : x.size ≤ 1000000) (hy : y.size ≤ 1000000) (v : ByteArray) (q : Bool)(h1 : As.isTok x.data.toList = true)(h2 : lowS x = u) (e1 : (u.toList == x.toList) = true)(h3 : As.plain y.data.toList = true) (h4 : trimS y = v) (e2 : (v.toList == y.toList) = q) : Calls Try.prog 44 #[.agg #[.string x, .string y]] w fun e w' => e = .returned (.bool q) ∧ Below w.heap.size w w' := by
  have HK : Hid (∀ W, Below (w.heap.size + 1) (w.alloc (.cells #[.string x, .string y] 25)) W → W.cell? ⟨w.heap.size, 0, none⟩ = some (.string x) ∧ W.cell? ⟨w.heap.size, 1, none⟩ = some (.string y)) := Lib.hid fun W hW =>
    ⟨(hW.cell (p := ⟨w.heap.size, 0, none⟩) (Nat.lt_succ_self _)).trans (cellV _ _ 0 _ _ _ (heap_alloc_new w _)), (hW.cell (p := ⟨w.heap.size, 1, none⟩) (Nat.lt_succ_self _)).trans (cellV _ _ 1 _ _ _ (heap_alloc_new w _))⟩
  have G0 : Hid (Below (w.heap.size + 1) (w.alloc (.cells #[.string x, .string y] 25)) (w.alloc (.cells #[.string x, .string y] 25)).drew) := Lib.hid (Below.refl _ _).drew
  have HF : Hid (∀ W, Below (w.heap.size + 1) (w.alloc (.cells #[.string x, .string y] 25)) W → Below w.heap.size w W) := Lib.hid fun W hW => (stpA (Below.refl _ _) _).trans (hW.mono (Nat.le_succ _))
  have HX := Lib.hid hx
  have HY := Lib.hid hy
  have H1 := Lib.hid h1
  have H2 := Lib.hid h2
  have H3 := Lib.hid h3
  have H4 := Lib.hid h4
  clear hx hy h1 h2 h3 h4
  go_enter Try.func44, Try.ntmps44
  go_wp2_with fail
  refine wp_region_noPanic ?_
  refine wp_region_Z (fun W => W.cell? ⟨w.heap.size, 0, none⟩ = some (.string x) ∧ W.cell? ⟨w.heap.size, 1, none⟩ = some (.string y)) 24 (by kernel_rfl) ?_
  have hS0 : (w.alloc (.cells #[.string x, .string y] 25)).drew.cell? ⟨w.heap.size, 0, none⟩ = some (.string x) ∧ (w.alloc (.cells #[.string x, .string y] 25)).drew.cell? ⟨w.heap.size, 1, none⟩ = some (.string y) := HK.out _ G0.out
  refine takeZ (i := 0) (v := .pointer (some ⟨w.heap.size, 0, none⟩)) rfl (by kernel_rfl) (by kernel_rfl) (by kernel_rfl) (by kernel_rfl) (fun _ _ _ h => h) (Or.inl ⟨by rfl, ?_⟩) hS0 ?_
  · intro w' hSw; (try dsimp only at hSw); go_simp
  try simp only [Act.put, List.setIfInBounds_toArray, List.set_cons_zero, List.set_cons_succ]
  refine takeZ (i := 1) (v := .string x) rfl (by kernel_rfl) (by kernel_rfl) (by kernel_rfl) (by kernel_rfl) (fun _ _ _ h => h) (Or.inl ⟨by rfl, ?_⟩) hS0 ?_
  · intro w' hSw; (try dsimp only at hSw); go_simp
  try simp only [Act.put, List.setIfInBounds_toArray, List.set_cons_zero, List.set_cons_succ]
  refine stepZ (i := 2) (by kernel_rfl) rfl (fun K hK => ?_)
  go_simp
  go_at_call 49
  (with_reducible refine (rtoken7 x true _ HX.out H1.out).mono ?_)
  rintro e1 w1 ⟨rfl, hb1⟩
  have G1 := Lib.hid (BelowG G0.out (by simp) hb1)
  have hS1 : w1.cell? ⟨w.heap.size, 0, none⟩ = some (.string x) ∧ w1.cell? ⟨w.heap.size, 1, none⟩ = some (.string y) := HK.out _ G1.out
  clear hb1
  go_wp2_with fail
  refine hK.out _ _ (fun _ => hS1) (fun _ => ?_)
  clear hK K hS0
  try simp only [Act.put, List.setIfInBounds_toArray, List.set_cons_zero, List.set_cons_succ]
  refine takeZ (i := 3) (v := .bool true) rfl (by kernel_rfl) (by kernel_rfl) (by kernel_rfl) (by kernel_rfl) (fun _ _ _ h => h) (Or.inl ⟨by rfl, ?_⟩) hS1 ?_
  · intro w' hSw; (try dsimp only at hSw); go_simp
  try simp only [Act.put, List.setIfInBounds_toArray, List.set_cons_zero, List.set_cons_succ]
  refine takeZ (i := 4) (v := .pointer (some ⟨w.heap.size, 0, none⟩)) rfl (by kernel_rfl) (by kernel_rfl) (by kernel_rfl) (by kernel_rfl) (fun _ _ _ h => h) (Or.inl ⟨by rfl, ?_⟩) hS1 ?_
  · intro w' hSw; (try dsimp only at hSw); go_simp
  try simp only [Act.put, List.setIfInBounds_toArray, List.set_cons_zero, List.set_cons_succ]
  refine takeZ (i := 5) (v := .string x) rfl (by kernel_rfl) (by kernel_rfl) (by kernel_rfl) (by kernel_rfl) (fun _ _ _ h => h) (Or.inl ⟨by rfl, ?_⟩) hS1 ?_
  · intro w' hSw; (try dsimp only at hSw); go_simp
  try simp only [Act.put, List.setIfInBounds_toArray, List.set_cons_zero, List.set_cons_succ]
  refine takeZ (i := 7) (v := .pointer (some ⟨w.heap.size, 0, none⟩)) rfl (by kernel_rfl) (by kernel_rfl) (by kernel_rfl) (by kernel_rfl) (fun _ _ _ h => h) (Or.inl ⟨by rfl, ?_⟩) hS1 ?_
  · intro w' hSw; (try dsimp only at hSw); go_simp
  try simp only [Act.put, List.setIfInBounds_toArray, List.set_cons_zero, List.set_cons_succ]
  refine takeZ (i := 8) (v := .string x) rfl (by kernel_rfl) (by kernel_rfl) (by kernel_rfl) (by kernel_rfl) (fun _ _ _ h => h) (Or.inl ⟨by rfl, ?_⟩) hS1 ?_
  · intro w' hSw; (try dsimp only at hSw); go_simp
  try simp only [Act.put, List.setIfInBounds_toArray, List.set_cons_zero, List.set_cons_succ]
  refine stepZ (i := 6) (by kernel_rfl) rfl (fun K hK => ?_)
  go_simp
  go_at_call 50
  (with_reducible refine (rlower7 x u _ HX.out H2.out).mono ?_)
  rintro e2 w2 ⟨rfl, hb2⟩
  have G2 := Lib.hid (BelowG G1.out (by simp) hb2)
  have hS2 : w2.cell? ⟨w.heap.size, 0, none⟩ = some (.string x) ∧ w2.cell? ⟨w.heap.size, 1, none⟩ = some (.string y) := HK.out _ G2.out
  clear hb2
  go_wp2_with fail
  refine hK.out _ _ (fun _ => hS2) (fun _ => ?_)
  clear hK K hS1
  try simp only [Act.put, List.setIfInBounds_toArray, List.set_cons_zero, List.set_cons_succ]
  refine takeZ (i := 9) (v := .bool true) rfl (by kernel_rfl) (by kernel_rfl) (by kernel_rfl) (by kernel_rfl) (fun _ _ _ h => h) (Or.inl ⟨by rfl, ?_⟩) hS2 ?_
  · intro w' hSw; (try dsimp only at hSw); go_simp
  try simp only [Act.put, List.setIfInBounds_toArray, List.set_cons_zero, List.set_cons_succ]
  refine takeZ (i := 10) (v := .bool true) rfl (by kernel_rfl) (by kernel_rfl) (by kernel_rfl) (by kernel_rfl) (fun _ _ _ h => h) (Or.inl ⟨by rfl, ?_⟩) hS2 ?_
  · intro w' hSw; (try dsimp only at hSw); go_simp
  try simp only [Act.put, List.setIfInBounds_toArray, List.set_cons_zero, List.set_cons_succ]
  refine takeZ (i := 11) (v := .bool true) rfl (by kernel_rfl) (by kernel_rfl) (by kernel_rfl) (by kernel_rfl) (fun _ _ _ h => h) (Or.inl ⟨by rfl, ?_⟩) hS2 ?_
  · intro w' hSw; (try dsimp only at hSw); go_simp
  try simp only [Act.put, List.setIfInBounds_toArray, List.set_cons_zero, List.set_cons_succ]
  refine takeZ (i := 12) (v := .pointer (some ⟨w.heap.size, 1, none⟩)) rfl (by kernel_rfl) (by kernel_rfl) (by kernel_rfl) (by kernel_rfl) (fun _ _ _ h => h) (Or.inl ⟨by rfl, ?_⟩) hS2 ?_
  · intro w' hSw; (try dsimp only at hSw); go_simp
  try simp only [Act.put, List.setIfInBounds_toArray, List.set_cons_zero, List.set_cons_succ]
  refine takeZ (i := 13) (v := .string y) rfl (by kernel_rfl) (by kernel_rfl) (by kernel_rfl) (by kernel_rfl) (fun _ _ _ h => h) (Or.inl ⟨by rfl, ?_⟩) hS2 ?_
  · intro w' hSw; (try dsimp only at hSw); go_simp
  try simp only [Act.put, List.setIfInBounds_toArray, List.set_cons_zero, List.set_cons_succ]
  refine stepZ (i := 14) (by kernel_rfl) rfl (fun K hK => ?_)
  go_simp
  go_at_call 68
  (with_reducible refine (rplain7 y true _ HY.out H3.out).mono ?_)
  rintro e3 w3 ⟨rfl, hb3⟩
  have G3 := Lib.hid (BelowG G2.out (by simp) hb3)
  have hS3 : w3.cell? ⟨w.heap.size, 0, none⟩ = some (.string x) ∧ w3.cell? ⟨w.heap.size, 1, none⟩ = some (.string y) := HK.out _ G3.out
  clear hb3
  go_wp2_with fail
  refine hK.out _ _ (fun _ => hS3) (fun _ => ?_)
  clear hK K hS2
  try simp only [Act.put, List.setIfInBounds_toArray, List.set_cons_zero, List.set_cons_succ]
  refine takeZ (i := 15) (v := .bool true) rfl (by kernel_rfl) (by kernel_rfl) (by kernel_rfl) (by kernel_rfl) (fun _ _ _ h => h) (Or.inl ⟨by rfl, ?_⟩) hS3 ?_
  · intro w' hSw; (try dsimp only at hSw); go_simp
  try simp only [Act.put, List.setIfInBounds_toArray, List.set_cons_zero, List.set_cons_succ]
  refine takeZ (i := 16) (v := .bool true) rfl (by kernel_rfl) (by kernel_rfl) (by kernel_rfl) (by kernel_rfl) (fun _ _ _ h => h) (Or.inl ⟨by rfl, ?_⟩) hS3 ?_
  · intro w' hSw; (try dsimp only at hSw); go_simp
  try simp only [Act.put, List.setIfInBounds_toArray, List.set_cons_zero, List.set_cons_succ]
  refine takeZ (i := 17) (v := .pointer (some ⟨w.heap.size, 1, none⟩)) rfl (by kernel_rfl) (by kernel_rfl) (by kernel_rfl) (by kernel_rfl) (fun _ _ _ h => h) (Or.inl ⟨by rfl, ?_⟩) hS3 ?_
  · intro w' hSw; (try dsimp only at hSw); go_simp
  try simp only [Act.put, List.setIfInBounds_toArray, List.set_cons_zero, List.set_cons_succ]
  refine takeZ (i := 18) (v := .string y) rfl (by kernel_rfl) (by kernel_rfl) (by kernel_rfl) (by kernel_rfl) (fun _ _ _ h => h) (Or.inl ⟨by rfl, ?_⟩) hS3 ?_
  · intro w' hSw; (try dsimp only at hSw); go_simp
  try simp only [Act.put, List.setIfInBounds_toArray, List.set_cons_zero, List.set_cons_succ]
  refine takeZ (i := 20) (v := .pointer (some ⟨w.heap.size, 1, none⟩)) rfl (by kernel_rfl) (by kernel_rfl) (by kernel_rfl) (by kernel_rfl) (fun _ _ _ h => h) (Or.inl ⟨by rfl, ?_⟩) hS3 ?_
  · intro w' hSw; (try dsimp only at hSw); go_simp
  try simp only [Act.put, List.setIfInBounds_toArray, List.set_cons_zero, List.set_cons_succ]
  refine takeZ (i := 21) (v := .string y) rfl (by kernel_rfl) (by kernel_rfl) (by kernel_rfl) (by kernel_rfl) (fun _ _ _ h => h) (Or.inl ⟨by rfl, ?_⟩) hS3 ?_
  · intro w' hSw; (try dsimp only at hSw); go_simp
  try simp only [Act.put, List.setIfInBounds_toArray, List.set_cons_zero, List.set_cons_succ]
  refine stepZ (i := 19) (by kernel_rfl) rfl (fun K hK => ?_)
  go_simp
  go_at_call 69
  (with_reducible refine (rtrim7 y v _ HY.out H4.out).mono ?_)
  rintro e4 w4 ⟨rfl, hb4⟩
  have G4 := Lib.hid (BelowG G3.out (by simp) hb4)
  have hS4 : w4.cell? ⟨w.heap.size, 0, none⟩ = some (.string x) ∧ w4.cell? ⟨w.heap.size, 1, none⟩ = some (.string y) := HK.out _ G4.out
  clear hb4
  go_wp2_with fail
  refine hK.out _ _ (fun _ => hS4) (fun _ => ?_)
  clear hK K hS3
  try simp only [Act.put, List.setIfInBounds_toArray, List.set_cons_zero, List.set_cons_succ]
  refine takeZ (i := 22) (v := .bool q) rfl (by kernel_rfl) (by kernel_rfl) (by kernel_rfl) (by kernel_rfl) (fun _ _ _ h => h) (Or.inl ⟨by rfl, ?_⟩) hS4 ?_
  · intro w' hSw; (try dsimp only at hSw); go_simp
  try simp only [Act.put, List.setIfInBounds_toArray, List.set_cons_zero, List.set_cons_succ]
  refine takeZ (i := 23) (v := .bool q) rfl (by kernel_rfl) (by kernel_rfl) (by kernel_rfl) (by kernel_rfl) (fun _ _ _ h => h) (Or.inl ⟨by rfl, ?_⟩) hS4 ?_
  · intro w' hSw; (try dsimp only at hSw); go_simp
  try simp only [Act.put, List.setIfInBounds_toArray, List.set_cons_zero, List.set_cons_succ]
  refine stepZ (i := 24) (by kernel_rfl) rfl (fun K hK => ?_)
  go_simp
  refine hK.out _ _ (fun h => absurd rfl h) (fun _ => ?_)
  clear hK K
  try simp only [Act.put, List.setIfInBounds_toArray, List.set_cons_zero, List.set_cons_succ]
  refine doneZ (by kernel_rfl) ?_ _
  refine NoPanic.normal ?_
  go_wp2_with fail
  go_ret
  exact ⟨rfl, HF.out _ G4.out⟩
theorem rmay14 (x y : ByteArray) (q : Bool) (w : World) (hx : x.size ≤ 1000000) (hy : y.size ≤ 1000000) (h : mayP ⟨x.data.toList, y.data.toList⟩ = q) : Calls Try.prog 44 #[.agg #[.string x, .string y]] w fun e w' => e = .returned (.bool q) ∧ Below w.heap.size w w' := by
  have hq : ((As.isTok x.data.toList && decide (As.lows x.data.toList = x.data.toList)) && As.plain y.data.toList && decide (As.trim y.data.toList = y.data.toList)) = q := h
  have e1 : ((lowS x).toList == x.toList) = decide (As.lows x.data.toList = x.data.toList) := seq_l _ _
  have e2 : ((trimS y).toList == y.toList) = decide (As.trim y.data.toList = y.data.toList) := seq_l _ _
  rw [← e1, ← e2] at hq
  cases h1 : As.isTok x.data.toList with
  | false =>
    obtain rfl : false = q := by rw [← hq, h1]; rfl
    exact rmay14_0 x y w hx hy h1
  | true =>
    cases k1 : ((lowS x).toList == x.toList) with
    | false =>
      obtain rfl : false = q := by rw [← hq, h1, k1]; rfl
      exact rmay14_1 x y _ w hx hy h1 rfl k1
    | true =>
      cases h3 : As.plain y.data.toList with
      | false =>
        obtain rfl : false = q := by rw [← hq, h1, k1, h3]; rfl
        exact rmay14_2 x y _ w hx hy h1 rfl k1 h3
      | true => exact rmay14_3 x y _ w hx hy _ q h1 rfl k1 h3 rfl (by rw [← hq, h1, k1, h3]; rfl)
set_option maxHeartbeats 8000000 in
set_option maxRecDepth 100000 in
theorem may14_0 (x y : ByteArray) (w : World) (hx : x.size ≤ 1000000) (hy : y.size ≤ 1000000) (h1 : As.isTok x.data.toList = false) : Calls Try.prog 40 #[.agg #[.string x, .string y]] w fun e w' => e = .returned (.bool false) ∧ Below w.heap.size w w' := by
  have HK : Hid (∀ W, Below (w.heap.size + 1) (w.alloc (.cells #[.string x, .string y] 25)) W → W.cell? ⟨w.heap.size, 0, none⟩ = some (.string x) ∧ W.cell? ⟨w.heap.size, 1, none⟩ = some (.string y)) := Lib.hid fun W hW =>
    ⟨(hW.cell (p := ⟨w.heap.size, 0, none⟩) (Nat.lt_succ_self _)).trans (cellV _ _ 0 _ _ _ (heap_alloc_new w _)), (hW.cell (p := ⟨w.heap.size, 1, none⟩) (Nat.lt_succ_self _)).trans (cellV _ _ 1 _ _ _ (heap_alloc_new w _))⟩
  have G0 : Hid (Below (w.heap.size + 1) (w.alloc (.cells #[.string x, .string y] 25)) (w.alloc (.cells #[.string x, .string y] 25)).drew) := Lib.hid (Below.refl _ _).drew
  have HF : Hid (∀ W, Below (w.heap.size + 1) (w.alloc (.cells #[.string x, .string y] 25)) W → Below w.heap.size w W) := Lib.hid fun W hW => (stpA (Below.refl _ _) _).trans (hW.mono (Nat.le_succ _))
  have HX := Lib.hid hx
  have HY := Lib.hid hy
  have H1 := Lib.hid h1
  clear hx hy h1
  go_enter Try.func40, Try.ntmps40
  go_wp2_with fail
  refine wp_region_noPanic ?_
  refine wp_region_Z (fun W => W.cell? ⟨w.heap.size, 0, none⟩ = some (.string x) ∧ W.cell? ⟨w.heap.size, 1, none⟩ = some (.string y)) 24 (by kernel_rfl) ?_
  have hS0 : (w.alloc (.cells #[.string x, .string y] 25)).drew.cell? ⟨w.heap.size, 0, none⟩ = some (.string x) ∧ (w.alloc (.cells #[.string x, .string y] 25)).drew.cell? ⟨w.heap.size, 1, none⟩ = some (.string y) := HK.out _ G0.out
  refine takeZ (i := 0) (v := .pointer (some ⟨w.heap.size, 0, none⟩)) rfl (by kernel_rfl) (by kernel_rfl) (by kernel_rfl) (by kernel_rfl) (fun _ _ _ h => h) (Or.inl ⟨by rfl, ?_⟩) hS0 ?_
  · intro w' hSw; (try dsimp only at hSw); go_simp
  try simp only [Act.put, List.setIfInBounds_toArray, List.set_cons_zero, List.set_cons_succ]
  refine takeZ (i := 1) (v := .string x) rfl (by kernel_rfl) (by kernel_rfl) (by kernel_rfl) (by kernel_rfl) (fun _ _ _ h => h) (Or.inl ⟨by rfl, ?_⟩) hS0 ?_
  · intro w' hSw; (try dsimp only at hSw); go_simp
  try simp only [Act.put, List.setIfInBounds_toArray, List.set_cons_zero, List.set_cons_succ]
  refine stepZ (i := 2) (by kernel_rfl) rfl (fun K hK => ?_)
  go_simp
  go_at_call 56
  (with_reducible refine (token7 x false _ HX.out H1.out).mono ?_)
  rintro e1 w1 ⟨rfl, hb1⟩
  have G1 := Lib.hid (BelowG G0.out (by simp) hb1)
  have hS1 : w1.cell? ⟨w.heap.size, 0, none⟩ = some (.string x) ∧ w1.cell? ⟨w.heap.size, 1, none⟩ = some (.string y) := HK.out _ G1.out
  clear hb1
  go_wp2_with fail
  refine hK.out _ _ (fun _ => hS1) (fun _ => ?_)
  clear hK K hS0
  try simp only [Act.put, List.setIfInBounds_toArray, List.set_cons_zero, List.set_cons_succ]
  refine takeZ (i := 3) (v := .bool false) rfl (by kernel_rfl) (by kernel_rfl) (by kernel_rfl) (by kernel_rfl) (fun _ _ _ h => h) (Or.inl ⟨by rfl, ?_⟩) hS1 ?_
  · intro w' hSw; (try dsimp only at hSw); go_simp
  try simp only [Act.put, List.setIfInBounds_toArray, List.set_cons_zero, List.set_cons_succ]
  refine takeZ (i := 4) (v := undef) rfl (by kernel_rfl) (by kernel_rfl) (by kernel_rfl) (by kernel_rfl) (fun _ _ _ h => h) (Or.inr ⟨by rfl, rfl⟩) hS1 ?_
  try simp only [Act.put, List.setIfInBounds_toArray, List.set_cons_zero, List.set_cons_succ]
  refine takeZ (i := 5) (v := undef) rfl (by kernel_rfl) (by kernel_rfl) (by kernel_rfl) (by kernel_rfl) (fun _ _ _ h => h) (Or.inr ⟨by rfl, rfl⟩) hS1 ?_
  try simp only [Act.put, List.setIfInBounds_toArray, List.set_cons_zero, List.set_cons_succ]
  refine takeZ (i := 7) (v := undef) rfl (by kernel_rfl) (by kernel_rfl) (by kernel_rfl) (by kernel_rfl) (fun _ _ _ h => h) (Or.inr ⟨by rfl, rfl⟩) hS1 ?_
  try simp only [Act.put, List.setIfInBounds_toArray, List.set_cons_zero, List.set_cons_succ]
  refine takeZ (i := 8) (v := undef) rfl (by kernel_rfl) (by kernel_rfl) (by kernel_rfl) (by kernel_rfl) (fun _ _ _ h => h) (Or.inr ⟨by rfl, rfl⟩) hS1 ?_
  try simp only [Act.put, List.setIfInBounds_toArray, List.set_cons_zero, List.set_cons_succ]
  refine stepZ (i := 6) (by kernel_rfl) rfl (fun K hK => ?_)
  go_simp
  refine hK.out _ _ (fun _ => hS1) (fun _ => ?_)
  clear hK K
  try simp only [Act.put, List.setIfInBounds_toArray, List.set_cons_zero, List.set_cons_succ]
  refine takeZ (i := 9) (v := undef) rfl (by kernel_rfl) (by kernel_rfl) (by kernel_rfl) (by kernel_rfl) (fun _ _ _ h => h) (Or.inr ⟨by rfl, rfl⟩) hS1 ?_
  try simp only [Act.put, List.setIfInBounds_toArray, List.set_cons_zero, List.set_cons_succ]
  refine takeZ (i := 10) (v := .bool false) rfl (by kernel_rfl) (by kernel_rfl) (by kernel_rfl) (by kernel_rfl) (fun _ _ _ h => h) (Or.inl ⟨by rfl, ?_⟩) hS1 ?_
  · intro w' hSw; (try dsimp only at hSw); go_simp
  try simp only [Act.put, List.setIfInBounds_toArray, List.set_cons_zero, List.set_cons_succ]
  refine takeZ (i := 11) (v := .bool false) rfl (by kernel_rfl) (by kernel_rfl) (by kernel_rfl) (by kernel_rfl) (fun _ _ _ h => h) (Or.inl ⟨by rfl, ?_⟩) hS1 ?_
  · intro w' hSw; (try dsimp only at hSw); go_simp
  try simp only [Act.put, List.setIfInBounds_toArray, List.set_cons_zero, List.set_cons_succ]
  refine takeZ (i := 12) (v := undef) rfl (by kernel_rfl) (by kernel_rfl) (by kernel_rfl) (by kernel_rfl) (fun _ _ _ h => h) (Or.inr ⟨by rfl, rfl⟩) hS1 ?_
  try simp only [Act.put, List.setIfInBounds_toArray, List.set_cons_zero, List.set_cons_succ]
  refine takeZ (i := 13) (v := undef) rfl (by kernel_rfl) (by kernel_rfl) (by kernel_rfl) (by kernel_rfl) (fun _ _ _ h => h) (Or.inr ⟨by rfl, rfl⟩) hS1 ?_
  try simp only [Act.put, List.setIfInBounds_toArray, List.set_cons_zero, List.set_cons_succ]
  refine stepZ (i := 14) (by kernel_rfl) rfl (fun K hK => ?_)
  go_simp
  refine hK.out _ _ (fun _ => hS1) (fun _ => ?_)
  clear hK K
  try simp only [Act.put, List.setIfInBounds_toArray, List.set_cons_zero, List.set_cons_succ]
  refine takeZ (i := 15) (v := .bool false) rfl (by kernel_rfl) (by kernel_rfl) (by kernel_rfl) (by kernel_rfl) (fun _ _ _ h => h) (Or.inl ⟨by rfl, ?_⟩) hS1 ?_
  · intro w' hSw; (try dsimp only at hSw); go_simp
  try simp only [Act.put, List.setIfInBounds_toArray, List.set_cons_zero, List.set_cons_succ]
  refine takeZ (i := 16) (v := .bool false) rfl (by kernel_rfl) (by kernel_rfl) (by kernel_rfl) (by kernel_rfl) (fun _ _ _ h => h) (Or.inl ⟨by rfl, ?_⟩) hS1 ?_
  · intro w' hSw; (try dsimp only at hSw); go_simp
  try simp only [Act.put, List.setIfInBounds_toArray, List.set_cons_zero, List.set_cons_succ]
  refine takeZ (i := 17) (v := undef) rfl (by kernel_rfl) (by kernel_rfl) (by kernel_rfl) (by kernel_rfl) (fun _ _ _ h => h) (Or.inr ⟨by rfl, rfl⟩) hS1 ?_
  try simp only [Act.put, List.setIfInBounds_toArray, List.set_cons_zero, List.set_cons_succ]
  refine takeZ (i := 18) (v := undef) rfl (by kernel_rfl) (by kernel_rfl) (by kernel_rfl) (by kernel_rfl) (fun _ _ _ h => h) (Or.inr ⟨by rfl, rfl⟩) hS1 ?_
  try simp only [Act.put, List.setIfInBounds_toArray, List.set_cons_zero, List.set_cons_succ]
  refine takeZ (i := 20) (v := undef) rfl (by kernel_rfl) (by kernel_rfl) (by kernel_rfl) (by kernel_rfl) (fun _ _ _ h => h) (Or.inr ⟨by rfl, rfl⟩) hS1 ?_
  try simp only [Act.put, List.setIfInBounds_toArray, List.set_cons_zero, List.set_cons_succ]
  refine takeZ (i := 21) (v := undef) rfl (by kernel_rfl) (by kernel_rfl) (by kernel_rfl) (by kernel_rfl) (fun _ _ _ h => h) (Or.inr ⟨by rfl, rfl⟩) hS1 ?_
  try simp only [Act.put, List.setIfInBounds_toArray, List.set_cons_zero, List.set_cons_succ]
  refine stepZ (i := 19) (by kernel_rfl) rfl (fun K hK => ?_)
  go_simp
  refine hK.out _ _ (fun _ => hS1) (fun _ => ?_)
  clear hK K
  try simp only [Act.put, List.setIfInBounds_toArray, List.set_cons_zero, List.set_cons_succ]
  refine takeZ (i := 22) (v := undef) rfl (by kernel_rfl) (by kernel_rfl) (by kernel_rfl) (by kernel_rfl) (fun _ _ _ h => h) (Or.inr ⟨by rfl, rfl⟩) hS1 ?_
  try simp only [Act.put, List.setIfInBounds_toArray, List.set_cons_zero, List.set_cons_succ]
  refine takeZ (i := 23) (v := .bool false) rfl (by kernel_rfl) (by kernel_rfl) (by kernel_rfl) (by kernel_rfl) (fun _ _ _ h => h) (Or.inl ⟨by rfl, ?_⟩) hS1 ?_
  · intro w' hSw; (try dsimp only at hSw); go_simp
  try simp only [Act.put, List.setIfInBounds_toArray, List.set_cons_zero, List.set_cons_succ]
  refine stepZ (i := 24) (by kernel_rfl) rfl (fun K hK => ?_)
  go_simp
  refine hK.out _ _ (fun h => absurd rfl h) (fun _ => ?_)
  clear hK K
  try simp only [Act.put, List.setIfInBounds_toArray, List.set_cons_zero, List.set_cons_succ]
  refine doneZ (by kernel_rfl) ?_ _
  refine NoPanic.normal ?_
  go_wp2_with fail
  go_ret
  exact ⟨rfl, HF.out _ G1.out⟩
set_option maxHeartbeats 8000000 in
set_option maxRecDepth 100000 in
theorem may14_1 (x y u : ByteArray) (w : World) (hx : x.size ≤ 1000000) (hy : y.size ≤ 1000000) (h1 : As.isTok x.data.toList = true)(h2 : lowS x = u) (e1 : (u.toList == x.toList) = false) : Calls Try.prog 40 #[.agg #[.string x, .string y]] w fun e w' => e = .returned (.bool false) ∧ Below w.heap.size w w' := by
  have HK : Hid (∀ W, Below (w.heap.size + 1) (w.alloc (.cells #[.string x, .string y] 25)) W → W.cell? ⟨w.heap.size, 0, none⟩ = some (.string x) ∧ W.cell? ⟨w.heap.size, 1, none⟩ = some (.string y)) := Lib.hid fun W hW =>
    ⟨(hW.cell (p := ⟨w.heap.size, 0, none⟩) (Nat.lt_succ_self _)).trans (cellV _ _ 0 _ _ _ (heap_alloc_new w _)), (hW.cell (p := ⟨w.heap.size, 1, none⟩) (Nat.lt_succ_self _)).trans (cellV _ _ 1 _ _ _ (heap_alloc_new w _))⟩
  have G0 : Hid (Below (w.heap.size + 1) (w.alloc (.cells #[.string x, .string y] 25)) (w.alloc (.cells #[.string x, .string y] 25)).drew) := Lib.hid (Below.refl _ _).drew
  have HF : Hid (∀ W, Below (w.heap.size + 1) (w.alloc (.cells #[.string x, .string y] 25)) W → Below w.heap.size w W) := Lib.hid fun W hW => (stpA (Below.refl _ _) _).trans (hW.mono (Nat.le_succ _))
  have HX := Lib.hid hx
  have HY := Lib.hid hy
  have H1 := Lib.hid h1
  have H2 := Lib.hid h2
  clear hx hy h1 h2
  go_enter Try.func40, Try.ntmps40
  go_wp2_with fail
  refine wp_region_noPanic ?_
  refine wp_region_Z (fun W => W.cell? ⟨w.heap.size, 0, none⟩ = some (.string x) ∧ W.cell? ⟨w.heap.size, 1, none⟩ = some (.string y)) 24 (by kernel_rfl) ?_
  have hS0 : (w.alloc (.cells #[.string x, .string y] 25)).drew.cell? ⟨w.heap.size, 0, none⟩ = some (.string x) ∧ (w.alloc (.cells #[.string x, .string y] 25)).drew.cell? ⟨w.heap.size, 1, none⟩ = some (.string y) := HK.out _ G0.out
  refine takeZ (i := 0) (v := .pointer (some ⟨w.heap.size, 0, none⟩)) rfl (by kernel_rfl) (by kernel_rfl) (by kernel_rfl) (by kernel_rfl) (fun _ _ _ h => h) (Or.inl ⟨by rfl, ?_⟩) hS0 ?_
  · intro w' hSw; (try dsimp only at hSw); go_simp
  try simp only [Act.put, List.setIfInBounds_toArray, List.set_cons_zero, List.set_cons_succ]
  refine takeZ (i := 1) (v := .string x) rfl (by kernel_rfl) (by kernel_rfl) (by kernel_rfl) (by kernel_rfl) (fun _ _ _ h => h) (Or.inl ⟨by rfl, ?_⟩) hS0 ?_
  · intro w' hSw; (try dsimp only at hSw); go_simp
  try simp only [Act.put, List.setIfInBounds_toArray, List.set_cons_zero, List.set_cons_succ]
  refine stepZ (i := 2) (by kernel_rfl) rfl (fun K hK => ?_)
  go_simp
  go_at_call 56
  (with_reducible refine (token7 x true _ HX.out H1.out).mono ?_)
  rintro e1 w1 ⟨rfl, hb1⟩
  have G1 := Lib.hid (BelowG G0.out (by simp) hb1)
  have hS1 : w1.cell? ⟨w.heap.size, 0, none⟩ = some (.string x) ∧ w1.cell? ⟨w.heap.size, 1, none⟩ = some (.string y) := HK.out _ G1.out
  clear hb1
  go_wp2_with fail
  refine hK.out _ _ (fun _ => hS1) (fun _ => ?_)
  clear hK K hS0
  try simp only [Act.put, List.setIfInBounds_toArray, List.set_cons_zero, List.set_cons_succ]
  refine takeZ (i := 3) (v := .bool true) rfl (by kernel_rfl) (by kernel_rfl) (by kernel_rfl) (by kernel_rfl) (fun _ _ _ h => h) (Or.inl ⟨by rfl, ?_⟩) hS1 ?_
  · intro w' hSw; (try dsimp only at hSw); go_simp
  try simp only [Act.put, List.setIfInBounds_toArray, List.set_cons_zero, List.set_cons_succ]
  refine takeZ (i := 4) (v := .pointer (some ⟨w.heap.size, 0, none⟩)) rfl (by kernel_rfl) (by kernel_rfl) (by kernel_rfl) (by kernel_rfl) (fun _ _ _ h => h) (Or.inl ⟨by rfl, ?_⟩) hS1 ?_
  · intro w' hSw; (try dsimp only at hSw); go_simp
  try simp only [Act.put, List.setIfInBounds_toArray, List.set_cons_zero, List.set_cons_succ]
  refine takeZ (i := 5) (v := .string x) rfl (by kernel_rfl) (by kernel_rfl) (by kernel_rfl) (by kernel_rfl) (fun _ _ _ h => h) (Or.inl ⟨by rfl, ?_⟩) hS1 ?_
  · intro w' hSw; (try dsimp only at hSw); go_simp
  try simp only [Act.put, List.setIfInBounds_toArray, List.set_cons_zero, List.set_cons_succ]
  refine takeZ (i := 7) (v := .pointer (some ⟨w.heap.size, 0, none⟩)) rfl (by kernel_rfl) (by kernel_rfl) (by kernel_rfl) (by kernel_rfl) (fun _ _ _ h => h) (Or.inl ⟨by rfl, ?_⟩) hS1 ?_
  · intro w' hSw; (try dsimp only at hSw); go_simp
  try simp only [Act.put, List.setIfInBounds_toArray, List.set_cons_zero, List.set_cons_succ]
  refine takeZ (i := 8) (v := .string x) rfl (by kernel_rfl) (by kernel_rfl) (by kernel_rfl) (by kernel_rfl) (fun _ _ _ h => h) (Or.inl ⟨by rfl, ?_⟩) hS1 ?_
  · intro w' hSw; (try dsimp only at hSw); go_simp
  try simp only [Act.put, List.setIfInBounds_toArray, List.set_cons_zero, List.set_cons_succ]
  refine stepZ (i := 6) (by kernel_rfl) rfl (fun K hK => ?_)
  go_simp
  go_at_call 53
  (with_reducible refine (lower7 x u _ HX.out H2.out).mono ?_)
  rintro e2 w2 ⟨rfl, hb2⟩
  have G2 := Lib.hid (BelowG G1.out (by simp) hb2)
  have hS2 : w2.cell? ⟨w.heap.size, 0, none⟩ = some (.string x) ∧ w2.cell? ⟨w.heap.size, 1, none⟩ = some (.string y) := HK.out _ G2.out
  clear hb2
  go_wp2_with fail
  refine hK.out _ _ (fun _ => hS2) (fun _ => ?_)
  clear hK K hS1
  try simp only [Act.put, List.setIfInBounds_toArray, List.set_cons_zero, List.set_cons_succ]
  refine takeZ (i := 9) (v := .bool false) rfl (by kernel_rfl) (by kernel_rfl) (by kernel_rfl) (by kernel_rfl) (fun _ _ _ h => h) (Or.inl ⟨by rfl, ?_⟩) hS2 ?_
  · intro w' hSw; (try dsimp only at hSw); go_simp
  try simp only [Act.put, List.setIfInBounds_toArray, List.set_cons_zero, List.set_cons_succ]
  refine takeZ (i := 10) (v := .bool false) rfl (by kernel_rfl) (by kernel_rfl) (by kernel_rfl) (by kernel_rfl) (fun _ _ _ h => h) (Or.inl ⟨by rfl, ?_⟩) hS2 ?_
  · intro w' hSw; (try dsimp only at hSw); go_simp
  try simp only [Act.put, List.setIfInBounds_toArray, List.set_cons_zero, List.set_cons_succ]
  refine takeZ (i := 11) (v := .bool false) rfl (by kernel_rfl) (by kernel_rfl) (by kernel_rfl) (by kernel_rfl) (fun _ _ _ h => h) (Or.inl ⟨by rfl, ?_⟩) hS2 ?_
  · intro w' hSw; (try dsimp only at hSw); go_simp
  try simp only [Act.put, List.setIfInBounds_toArray, List.set_cons_zero, List.set_cons_succ]
  refine takeZ (i := 12) (v := undef) rfl (by kernel_rfl) (by kernel_rfl) (by kernel_rfl) (by kernel_rfl) (fun _ _ _ h => h) (Or.inr ⟨by rfl, rfl⟩) hS2 ?_
  try simp only [Act.put, List.setIfInBounds_toArray, List.set_cons_zero, List.set_cons_succ]
  refine takeZ (i := 13) (v := undef) rfl (by kernel_rfl) (by kernel_rfl) (by kernel_rfl) (by kernel_rfl) (fun _ _ _ h => h) (Or.inr ⟨by rfl, rfl⟩) hS2 ?_
  try simp only [Act.put, List.setIfInBounds_toArray, List.set_cons_zero, List.set_cons_succ]
  refine stepZ (i := 14) (by kernel_rfl) rfl (fun K hK => ?_)
  go_simp
  refine hK.out _ _ (fun _ => hS2) (fun _ => ?_)
  clear hK K
  try simp only [Act.put, List.setIfInBounds_toArray, List.set_cons_zero, List.set_cons_succ]
  refine takeZ (i := 15) (v := .bool false) rfl (by kernel_rfl) (by kernel_rfl) (by kernel_rfl) (by kernel_rfl) (fun _ _ _ h => h) (Or.inl ⟨by rfl, ?_⟩) hS2 ?_
  · intro w' hSw; (try dsimp only at hSw); go_simp
  try simp only [Act.put, List.setIfInBounds_toArray, List.set_cons_zero, List.set_cons_succ]
  refine takeZ (i := 16) (v := .bool false) rfl (by kernel_rfl) (by kernel_rfl) (by kernel_rfl) (by kernel_rfl) (fun _ _ _ h => h) (Or.inl ⟨by rfl, ?_⟩) hS2 ?_
  · intro w' hSw; (try dsimp only at hSw); go_simp
  try simp only [Act.put, List.setIfInBounds_toArray, List.set_cons_zero, List.set_cons_succ]
  refine takeZ (i := 17) (v := undef) rfl (by kernel_rfl) (by kernel_rfl) (by kernel_rfl) (by kernel_rfl) (fun _ _ _ h => h) (Or.inr ⟨by rfl, rfl⟩) hS2 ?_
  try simp only [Act.put, List.setIfInBounds_toArray, List.set_cons_zero, List.set_cons_succ]
  refine takeZ (i := 18) (v := undef) rfl (by kernel_rfl) (by kernel_rfl) (by kernel_rfl) (by kernel_rfl) (fun _ _ _ h => h) (Or.inr ⟨by rfl, rfl⟩) hS2 ?_
  try simp only [Act.put, List.setIfInBounds_toArray, List.set_cons_zero, List.set_cons_succ]
  refine takeZ (i := 20) (v := undef) rfl (by kernel_rfl) (by kernel_rfl) (by kernel_rfl) (by kernel_rfl) (fun _ _ _ h => h) (Or.inr ⟨by rfl, rfl⟩) hS2 ?_
  try simp only [Act.put, List.setIfInBounds_toArray, List.set_cons_zero, List.set_cons_succ]
  refine takeZ (i := 21) (v := undef) rfl (by kernel_rfl) (by kernel_rfl) (by kernel_rfl) (by kernel_rfl) (fun _ _ _ h => h) (Or.inr ⟨by rfl, rfl⟩) hS2 ?_
  try simp only [Act.put, List.setIfInBounds_toArray, List.set_cons_zero, List.set_cons_succ]
  refine stepZ (i := 19) (by kernel_rfl) rfl (fun K hK => ?_)
  go_simp
  refine hK.out _ _ (fun _ => hS2) (fun _ => ?_)
  clear hK K
  try simp only [Act.put, List.setIfInBounds_toArray, List.set_cons_zero, List.set_cons_succ]
  refine takeZ (i := 22) (v := undef) rfl (by kernel_rfl) (by kernel_rfl) (by kernel_rfl) (by kernel_rfl) (fun _ _ _ h => h) (Or.inr ⟨by rfl, rfl⟩) hS2 ?_
  try simp only [Act.put, List.setIfInBounds_toArray, List.set_cons_zero, List.set_cons_succ]
  refine takeZ (i := 23) (v := .bool false) rfl (by kernel_rfl) (by kernel_rfl) (by kernel_rfl) (by kernel_rfl) (fun _ _ _ h => h) (Or.inl ⟨by rfl, ?_⟩) hS2 ?_
  · intro w' hSw; (try dsimp only at hSw); go_simp
  try simp only [Act.put, List.setIfInBounds_toArray, List.set_cons_zero, List.set_cons_succ]
  refine stepZ (i := 24) (by kernel_rfl) rfl (fun K hK => ?_)
  go_simp
  refine hK.out _ _ (fun h => absurd rfl h) (fun _ => ?_)
  clear hK K
  try simp only [Act.put, List.setIfInBounds_toArray, List.set_cons_zero, List.set_cons_succ]
  refine doneZ (by kernel_rfl) ?_ _
  refine NoPanic.normal ?_
  go_wp2_with fail
  go_ret
  exact ⟨rfl, HF.out _ G2.out⟩
set_option maxHeartbeats 8000000 in
set_option maxRecDepth 100000 in
theorem may14_2 (x y u : ByteArray) (w : World) (hx : x.size ≤ 1000000) (hy : y.size ≤ 1000000) (h1 : As.isTok x.data.toList = true)(h2 : lowS x = u) (e1 : (u.toList == x.toList) = true)(h3 : As.plain y.data.toList = false) : Calls Try.prog 40 #[.agg #[.string x, .string y]] w fun e w' => e = .returned (.bool false) ∧ Below w.heap.size w w' := by
  have HK : Hid (∀ W, Below (w.heap.size + 1) (w.alloc (.cells #[.string x, .string y] 25)) W → W.cell? ⟨w.heap.size, 0, none⟩ = some (.string x) ∧ W.cell? ⟨w.heap.size, 1, none⟩ = some (.string y)) := Lib.hid fun W hW =>
    ⟨(hW.cell (p := ⟨w.heap.size, 0, none⟩) (Nat.lt_succ_self _)).trans (cellV _ _ 0 _ _ _ (heap_alloc_new w _)), (hW.cell (p := ⟨w.heap.size, 1, none⟩) (Nat.lt_succ_self _)).trans (cellV _ _ 1 _ _ _ (heap_alloc_new w _))⟩
  have G0 : Hid (Below (w.heap.size + 1) (w.alloc (.cells #[.string x, .string y] 25)) (w.alloc (.cells #[.string x, .string y] 25)).drew) := Lib.hid (Below.refl _ _).drew
  have HF : Hid (∀ W, Below (w.heap.size + 1) (w.alloc (.cells #[.string x, .string y] 25)) W → Below w.heap.size w W) := Lib.hid fun W hW => (stpA (Below.refl _ _) _).trans (hW.mono (Nat.le_succ _))
  have HX := Lib.hid hx
  have HY := Lib.hid hy
  have H1 := Lib.hid h1
  have H2 := Lib.hid h2
  have H3 := Lib.hid h3
  clear hx hy h1 h2 h3
  go_enter Try.func40, Try.ntmps40
  go_wp2_with fail
  refine wp_region_noPanic ?_
  refine wp_region_Z (fun W => W.cell? ⟨w.heap.size, 0, none⟩ = some (.string x) ∧ W.cell? ⟨w.heap.size, 1, none⟩ = some (.string y)) 24 (by kernel_rfl) ?_
  have hS0 : (w.alloc (.cells #[.string x, .string y] 25)).drew.cell? ⟨w.heap.size, 0, none⟩ = some (.string x) ∧ (w.alloc (.cells #[.string x, .string y] 25)).drew.cell? ⟨w.heap.size, 1, none⟩ = some (.string y) := HK.out _ G0.out
  refine takeZ (i := 0) (v := .pointer (some ⟨w.heap.size, 0, none⟩)) rfl (by kernel_rfl) (by kernel_rfl) (by kernel_rfl) (by kernel_rfl) (fun _ _ _ h => h) (Or.inl ⟨by rfl, ?_⟩) hS0 ?_
  · intro w' hSw; (try dsimp only at hSw); go_simp
  try simp only [Act.put, List.setIfInBounds_toArray, List.set_cons_zero, List.set_cons_succ]
  refine takeZ (i := 1) (v := .string x) rfl (by kernel_rfl) (by kernel_rfl) (by kernel_rfl) (by kernel_rfl) (fun _ _ _ h => h) (Or.inl ⟨by rfl, ?_⟩) hS0 ?_
  · intro w' hSw; (try dsimp only at hSw); go_simp
  try simp only [Act.put, List.setIfInBounds_toArray, List.set_cons_zero, List.set_cons_succ]
  refine stepZ (i := 2) (by kernel_rfl) rfl (fun K hK => ?_)
  go_simp
  go_at_call 56
  (with_reducible refine (token7 x true _ HX.out H1.out).mono ?_)
  rintro e1 w1 ⟨rfl, hb1⟩
  have G1 := Lib.hid (BelowG G0.out (by simp) hb1)
  have hS1 : w1.cell? ⟨w.heap.size, 0, none⟩ = some (.string x) ∧ w1.cell? ⟨w.heap.size, 1, none⟩ = some (.string y) := HK.out _ G1.out
  clear hb1
  go_wp2_with fail
  refine hK.out _ _ (fun _ => hS1) (fun _ => ?_)
  clear hK K hS0
  try simp only [Act.put, List.setIfInBounds_toArray, List.set_cons_zero, List.set_cons_succ]
  refine takeZ (i := 3) (v := .bool true) rfl (by kernel_rfl) (by kernel_rfl) (by kernel_rfl) (by kernel_rfl) (fun _ _ _ h => h) (Or.inl ⟨by rfl, ?_⟩) hS1 ?_
  · intro w' hSw; (try dsimp only at hSw); go_simp
  try simp only [Act.put, List.setIfInBounds_toArray, List.set_cons_zero, List.set_cons_succ]
  refine takeZ (i := 4) (v := .pointer (some ⟨w.heap.size, 0, none⟩)) rfl (by kernel_rfl) (by kernel_rfl) (by kernel_rfl) (by kernel_rfl) (fun _ _ _ h => h) (Or.inl ⟨by rfl, ?_⟩) hS1 ?_
  · intro w' hSw; (try dsimp only at hSw); go_simp
  try simp only [Act.put, List.setIfInBounds_toArray, List.set_cons_zero, List.set_cons_succ]
  refine takeZ (i := 5) (v := .string x) rfl (by kernel_rfl) (by kernel_rfl) (by kernel_rfl) (by kernel_rfl) (fun _ _ _ h => h) (Or.inl ⟨by rfl, ?_⟩) hS1 ?_
  · intro w' hSw; (try dsimp only at hSw); go_simp
  try simp only [Act.put, List.setIfInBounds_toArray, List.set_cons_zero, List.set_cons_succ]
  refine takeZ (i := 7) (v := .pointer (some ⟨w.heap.size, 0, none⟩)) rfl (by kernel_rfl) (by kernel_rfl) (by kernel_rfl) (by kernel_rfl) (fun _ _ _ h => h) (Or.inl ⟨by rfl, ?_⟩) hS1 ?_
  · intro w' hSw; (try dsimp only at hSw); go_simp
  try simp only [Act.put, List.setIfInBounds_toArray, List.set_cons_zero, List.set_cons_succ]
  refine takeZ (i := 8) (v := .string x) rfl (by kernel_rfl) (by kernel_rfl) (by kernel_rfl) (by kernel_rfl) (fun _ _ _ h => h) (Or.inl ⟨by rfl, ?_⟩) hS1 ?_
  · intro w' hSw; (try dsimp only at hSw); go_simp
  try simp only [Act.put, List.setIfInBounds_toArray, List.set_cons_zero, List.set_cons_succ]
  refine stepZ (i := 6) (by kernel_rfl) rfl (fun K hK => ?_)
  go_simp
  go_at_call 53
  (with_reducible refine (lower7 x u _ HX.out H2.out).mono ?_)
  rintro e2 w2 ⟨rfl, hb2⟩
  have G2 := Lib.hid (BelowG G1.out (by simp) hb2)
  have hS2 : w2.cell? ⟨w.heap.size, 0, none⟩ = some (.string x) ∧ w2.cell? ⟨w.heap.size, 1, none⟩ = some (.string y) := HK.out _ G2.out
  clear hb2
  go_wp2_with fail
  refine hK.out _ _ (fun _ => hS2) (fun _ => ?_)
  clear hK K hS1
  try simp only [Act.put, List.setIfInBounds_toArray, List.set_cons_zero, List.set_cons_succ]
  refine takeZ (i := 9) (v := .bool true) rfl (by kernel_rfl) (by kernel_rfl) (by kernel_rfl) (by kernel_rfl) (fun _ _ _ h => h) (Or.inl ⟨by rfl, ?_⟩) hS2 ?_
  · intro w' hSw; (try dsimp only at hSw); go_simp
  try simp only [Act.put, List.setIfInBounds_toArray, List.set_cons_zero, List.set_cons_succ]
  refine takeZ (i := 10) (v := .bool true) rfl (by kernel_rfl) (by kernel_rfl) (by kernel_rfl) (by kernel_rfl) (fun _ _ _ h => h) (Or.inl ⟨by rfl, ?_⟩) hS2 ?_
  · intro w' hSw; (try dsimp only at hSw); go_simp
  try simp only [Act.put, List.setIfInBounds_toArray, List.set_cons_zero, List.set_cons_succ]
  refine takeZ (i := 11) (v := .bool true) rfl (by kernel_rfl) (by kernel_rfl) (by kernel_rfl) (by kernel_rfl) (fun _ _ _ h => h) (Or.inl ⟨by rfl, ?_⟩) hS2 ?_
  · intro w' hSw; (try dsimp only at hSw); go_simp
  try simp only [Act.put, List.setIfInBounds_toArray, List.set_cons_zero, List.set_cons_succ]
  refine takeZ (i := 12) (v := .pointer (some ⟨w.heap.size, 1, none⟩)) rfl (by kernel_rfl) (by kernel_rfl) (by kernel_rfl) (by kernel_rfl) (fun _ _ _ h => h) (Or.inl ⟨by rfl, ?_⟩) hS2 ?_
  · intro w' hSw; (try dsimp only at hSw); go_simp
  try simp only [Act.put, List.setIfInBounds_toArray, List.set_cons_zero, List.set_cons_succ]
  refine takeZ (i := 13) (v := .string y) rfl (by kernel_rfl) (by kernel_rfl) (by kernel_rfl) (by kernel_rfl) (fun _ _ _ h => h) (Or.inl ⟨by rfl, ?_⟩) hS2 ?_
  · intro w' hSw; (try dsimp only at hSw); go_simp
  try simp only [Act.put, List.setIfInBounds_toArray, List.set_cons_zero, List.set_cons_succ]
  refine stepZ (i := 14) (by kernel_rfl) rfl (fun K hK => ?_)
  go_simp
  go_at_call 57
  (with_reducible refine (plain7 y false _ HY.out H3.out).mono ?_)
  rintro e3 w3 ⟨rfl, hb3⟩
  have G3 := Lib.hid (BelowG G2.out (by simp) hb3)
  have hS3 : w3.cell? ⟨w.heap.size, 0, none⟩ = some (.string x) ∧ w3.cell? ⟨w.heap.size, 1, none⟩ = some (.string y) := HK.out _ G3.out
  clear hb3
  go_wp2_with fail
  refine hK.out _ _ (fun _ => hS3) (fun _ => ?_)
  clear hK K hS2
  try simp only [Act.put, List.setIfInBounds_toArray, List.set_cons_zero, List.set_cons_succ]
  refine takeZ (i := 15) (v := .bool false) rfl (by kernel_rfl) (by kernel_rfl) (by kernel_rfl) (by kernel_rfl) (fun _ _ _ h => h) (Or.inl ⟨by rfl, ?_⟩) hS3 ?_
  · intro w' hSw; (try dsimp only at hSw); go_simp
  try simp only [Act.put, List.setIfInBounds_toArray, List.set_cons_zero, List.set_cons_succ]
  refine takeZ (i := 16) (v := .bool false) rfl (by kernel_rfl) (by kernel_rfl) (by kernel_rfl) (by kernel_rfl) (fun _ _ _ h => h) (Or.inl ⟨by rfl, ?_⟩) hS3 ?_
  · intro w' hSw; (try dsimp only at hSw); go_simp
  try simp only [Act.put, List.setIfInBounds_toArray, List.set_cons_zero, List.set_cons_succ]
  refine takeZ (i := 17) (v := undef) rfl (by kernel_rfl) (by kernel_rfl) (by kernel_rfl) (by kernel_rfl) (fun _ _ _ h => h) (Or.inr ⟨by rfl, rfl⟩) hS3 ?_
  try simp only [Act.put, List.setIfInBounds_toArray, List.set_cons_zero, List.set_cons_succ]
  refine takeZ (i := 18) (v := undef) rfl (by kernel_rfl) (by kernel_rfl) (by kernel_rfl) (by kernel_rfl) (fun _ _ _ h => h) (Or.inr ⟨by rfl, rfl⟩) hS3 ?_
  try simp only [Act.put, List.setIfInBounds_toArray, List.set_cons_zero, List.set_cons_succ]
  refine takeZ (i := 20) (v := undef) rfl (by kernel_rfl) (by kernel_rfl) (by kernel_rfl) (by kernel_rfl) (fun _ _ _ h => h) (Or.inr ⟨by rfl, rfl⟩) hS3 ?_
  try simp only [Act.put, List.setIfInBounds_toArray, List.set_cons_zero, List.set_cons_succ]
  refine takeZ (i := 21) (v := undef) rfl (by kernel_rfl) (by kernel_rfl) (by kernel_rfl) (by kernel_rfl) (fun _ _ _ h => h) (Or.inr ⟨by rfl, rfl⟩) hS3 ?_
  try simp only [Act.put, List.setIfInBounds_toArray, List.set_cons_zero, List.set_cons_succ]
  refine stepZ (i := 19) (by kernel_rfl) rfl (fun K hK => ?_)
  go_simp
  refine hK.out _ _ (fun _ => hS3) (fun _ => ?_)
  clear hK K
  try simp only [Act.put, List.setIfInBounds_toArray, List.set_cons_zero, List.set_cons_succ]
  refine takeZ (i := 22) (v := undef) rfl (by kernel_rfl) (by kernel_rfl) (by kernel_rfl) (by kernel_rfl) (fun _ _ _ h => h) (Or.inr ⟨by rfl, rfl⟩) hS3 ?_
  try simp only [Act.put, List.setIfInBounds_toArray, List.set_cons_zero, List.set_cons_succ]
  refine takeZ (i := 23) (v := .bool false) rfl (by kernel_rfl) (by kernel_rfl) (by kernel_rfl) (by kernel_rfl) (fun _ _ _ h => h) (Or.inl ⟨by rfl, ?_⟩) hS3 ?_
  · intro w' hSw; (try dsimp only at hSw); go_simp
  try simp only [Act.put, List.setIfInBounds_toArray, List.set_cons_zero, List.set_cons_succ]
  refine stepZ (i := 24) (by kernel_rfl) rfl (fun K hK => ?_)
  go_simp
  refine hK.out _ _ (fun h => absurd rfl h) (fun _ => ?_)
  clear hK K
  try simp only [Act.put, List.setIfInBounds_toArray, List.set_cons_zero, List.set_cons_succ]
  refine doneZ (by kernel_rfl) ?_ _
  refine NoPanic.normal ?_
  go_wp2_with fail
  go_ret
  exact ⟨rfl, HF.out _ G3.out⟩
set_option maxHeartbeats 8000000 in
set_option maxRecDepth 100000 in
theorem may14_3 (x y u : ByteArray) (w : World) (hx : x.size ≤ 1000000) (hy : y.size ≤ 1000000) (v : ByteArray) (q : Bool)(h1 : As.isTok x.data.toList = true)(h2 : lowS x = u) (e1 : (u.toList == x.toList) = true)(h3 : As.plain y.data.toList = true) (h4 : trimS y = v) (e2 : (v.toList == y.toList) = q) : Calls Try.prog 40 #[.agg #[.string x, .string y]] w fun e w' => e = .returned (.bool q) ∧ Below w.heap.size w w' := by
  have HK : Hid (∀ W, Below (w.heap.size + 1) (w.alloc (.cells #[.string x, .string y] 25)) W → W.cell? ⟨w.heap.size, 0, none⟩ = some (.string x) ∧ W.cell? ⟨w.heap.size, 1, none⟩ = some (.string y)) := Lib.hid fun W hW =>
    ⟨(hW.cell (p := ⟨w.heap.size, 0, none⟩) (Nat.lt_succ_self _)).trans (cellV _ _ 0 _ _ _ (heap_alloc_new w _)), (hW.cell (p := ⟨w.heap.size, 1, none⟩) (Nat.lt_succ_self _)).trans (cellV _ _ 1 _ _ _ (heap_alloc_new w _))⟩
  have G0 : Hid (Below (w.heap.size + 1) (w.alloc (.cells #[.string x, .string y] 25)) (w.alloc (.cells #[.string x, .string y] 25)).drew) := Lib.hid (Below.refl _ _).drew
  have HF : Hid (∀ W, Below (w.heap.size + 1) (w.alloc (.cells #[.string x, .string y] 25)) W → Below w.heap.size w W) := Lib.hid fun W hW => (stpA (Below.refl _ _) _).trans (hW.mono (Nat.le_succ _))
  have HX := Lib.hid hx
  have HY := Lib.hid hy
  have H1 := Lib.hid h1
  have H2 := Lib.hid h2
  have H3 := Lib.hid h3
  have H4 := Lib.hid h4
  clear hx hy h1 h2 h3 h4
  go_enter Try.func40, Try.ntmps40
  go_wp2_with fail
  refine wp_region_noPanic ?_
  refine wp_region_Z (fun W => W.cell? ⟨w.heap.size, 0, none⟩ = some (.string x) ∧ W.cell? ⟨w.heap.size, 1, none⟩ = some (.string y)) 24 (by kernel_rfl) ?_
  have hS0 : (w.alloc (.cells #[.string x, .string y] 25)).drew.cell? ⟨w.heap.size, 0, none⟩ = some (.string x) ∧ (w.alloc (.cells #[.string x, .string y] 25)).drew.cell? ⟨w.heap.size, 1, none⟩ = some (.string y) := HK.out _ G0.out
  refine takeZ (i := 0) (v := .pointer (some ⟨w.heap.size, 0, none⟩)) rfl (by kernel_rfl) (by kernel_rfl) (by kernel_rfl) (by kernel_rfl) (fun _ _ _ h => h) (Or.inl ⟨by rfl, ?_⟩) hS0 ?_
  · intro w' hSw; (try dsimp only at hSw); go_simp
  try simp only [Act.put, List.setIfInBounds_toArray, List.set_cons_zero, List.set_cons_succ]
  refine takeZ (i := 1) (v := .string x) rfl (by kernel_rfl) (by kernel_rfl) (by kernel_rfl) (by kernel_rfl) (fun _ _ _ h => h) (Or.inl ⟨by rfl, ?_⟩) hS0 ?_
  · intro w' hSw; (try dsimp only at hSw); go_simp
  try simp only [Act.put, List.setIfInBounds_toArray, List.set_cons_zero, List.set_cons_succ]
  refine stepZ (i := 2) (by kernel_rfl) rfl (fun K hK => ?_)
  go_simp
  go_at_call 56
  (with_reducible refine (token7 x true _ HX.out H1.out).mono ?_)
  rintro e1 w1 ⟨rfl, hb1⟩
  have G1 := Lib.hid (BelowG G0.out (by simp) hb1)
  have hS1 : w1.cell? ⟨w.heap.size, 0, none⟩ = some (.string x) ∧ w1.cell? ⟨w.heap.size, 1, none⟩ = some (.string y) := HK.out _ G1.out
  clear hb1
  go_wp2_with fail
  refine hK.out _ _ (fun _ => hS1) (fun _ => ?_)
  clear hK K hS0
  try simp only [Act.put, List.setIfInBounds_toArray, List.set_cons_zero, List.set_cons_succ]
  refine takeZ (i := 3) (v := .bool true) rfl (by kernel_rfl) (by kernel_rfl) (by kernel_rfl) (by kernel_rfl) (fun _ _ _ h => h) (Or.inl ⟨by rfl, ?_⟩) hS1 ?_
  · intro w' hSw; (try dsimp only at hSw); go_simp
  try simp only [Act.put, List.setIfInBounds_toArray, List.set_cons_zero, List.set_cons_succ]
  refine takeZ (i := 4) (v := .pointer (some ⟨w.heap.size, 0, none⟩)) rfl (by kernel_rfl) (by kernel_rfl) (by kernel_rfl) (by kernel_rfl) (fun _ _ _ h => h) (Or.inl ⟨by rfl, ?_⟩) hS1 ?_
  · intro w' hSw; (try dsimp only at hSw); go_simp
  try simp only [Act.put, List.setIfInBounds_toArray, List.set_cons_zero, List.set_cons_succ]
  refine takeZ (i := 5) (v := .string x) rfl (by kernel_rfl) (by kernel_rfl) (by kernel_rfl) (by kernel_rfl) (fun _ _ _ h => h) (Or.inl ⟨by rfl, ?_⟩) hS1 ?_
  · intro w' hSw; (try dsimp only at hSw); go_simp
  try simp only [Act.put, List.setIfInBounds_toArray, List.set_cons_zero, List.set_cons_succ]
  refine takeZ (i := 7) (v := .pointer (some ⟨w.heap.size, 0, none⟩)) rfl (by kernel_rfl) (by kernel_rfl) (by kernel_rfl) (by kernel_rfl) (fun _ _ _ h => h) (Or.inl ⟨by rfl, ?_⟩) hS1 ?_
  · intro w' hSw; (try dsimp only at hSw); go_simp
  try simp only [Act.put, List.setIfInBounds_toArray, List.set_cons_zero, List.set_cons_succ]
  refine takeZ (i := 8) (v := .string x) rfl (by kernel_rfl) (by kernel_rfl) (by kernel_rfl) (by kernel_rfl) (fun _ _ _ h => h) (Or.inl ⟨by rfl, ?_⟩) hS1 ?_
  · intro w' hSw; (try dsimp only at hSw); go_simp
  try simp only [Act.put, List.setIfInBounds_toArray, List.set_cons_zero, List.set_cons_succ]
  refine stepZ (i := 6) (by kernel_rfl) rfl (fun K hK => ?_)
  go_simp
  go_at_call 53
  (with_reducible refine (lower7 x u _ HX.out H2.out).mono ?_)
  rintro e2 w2 ⟨rfl, hb2⟩
  have G2 := Lib.hid (BelowG G1.out (by simp) hb2)
  have hS2 : w2.cell? ⟨w.heap.size, 0, none⟩ = some (.string x) ∧ w2.cell? ⟨w.heap.size, 1, none⟩ = some (.string y) := HK.out _ G2.out
  clear hb2
  go_wp2_with fail
  refine hK.out _ _ (fun _ => hS2) (fun _ => ?_)
  clear hK K hS1
  try simp only [Act.put, List.setIfInBounds_toArray, List.set_cons_zero, List.set_cons_succ]
  refine takeZ (i := 9) (v := .bool true) rfl (by kernel_rfl) (by kernel_rfl) (by kernel_rfl) (by kernel_rfl) (fun _ _ _ h => h) (Or.inl ⟨by rfl, ?_⟩) hS2 ?_
  · intro w' hSw; (try dsimp only at hSw); go_simp
  try simp only [Act.put, List.setIfInBounds_toArray, List.set_cons_zero, List.set_cons_succ]
  refine takeZ (i := 10) (v := .bool true) rfl (by kernel_rfl) (by kernel_rfl) (by kernel_rfl) (by kernel_rfl) (fun _ _ _ h => h) (Or.inl ⟨by rfl, ?_⟩) hS2 ?_
  · intro w' hSw; (try dsimp only at hSw); go_simp
  try simp only [Act.put, List.setIfInBounds_toArray, List.set_cons_zero, List.set_cons_succ]
  refine takeZ (i := 11) (v := .bool true) rfl (by kernel_rfl) (by kernel_rfl) (by kernel_rfl) (by kernel_rfl) (fun _ _ _ h => h) (Or.inl ⟨by rfl, ?_⟩) hS2 ?_
  · intro w' hSw; (try dsimp only at hSw); go_simp
  try simp only [Act.put, List.setIfInBounds_toArray, List.set_cons_zero, List.set_cons_succ]
  refine takeZ (i := 12) (v := .pointer (some ⟨w.heap.size, 1, none⟩)) rfl (by kernel_rfl) (by kernel_rfl) (by kernel_rfl) (by kernel_rfl) (fun _ _ _ h => h) (Or.inl ⟨by rfl, ?_⟩) hS2 ?_
  · intro w' hSw; (try dsimp only at hSw); go_simp
  try simp only [Act.put, List.setIfInBounds_toArray, List.set_cons_zero, List.set_cons_succ]
  refine takeZ (i := 13) (v := .string y) rfl (by kernel_rfl) (by kernel_rfl) (by kernel_rfl) (by kernel_rfl) (fun _ _ _ h => h) (Or.inl ⟨by rfl, ?_⟩) hS2 ?_
  · intro w' hSw; (try dsimp only at hSw); go_simp
  try simp only [Act.put, List.setIfInBounds_toArray, List.set_cons_zero, List.set_cons_succ]
  refine stepZ (i := 14) (by kernel_rfl) rfl (fun K hK => ?_)
  go_simp
  go_at_call 57
  (with_reducible refine (plain7 y true _ HY.out H3.out).mono ?_)
  rintro e3 w3 ⟨rfl, hb3⟩
  have G3 := Lib.hid (BelowG G2.out (by simp) hb3)
  have hS3 : w3.cell? ⟨w.heap.size, 0, none⟩ = some (.string x) ∧ w3.cell? ⟨w.heap.size, 1, none⟩ = some (.string y) := HK.out _ G3.out
  clear hb3
  go_wp2_with fail
  refine hK.out _ _ (fun _ => hS3) (fun _ => ?_)
  clear hK K hS2
  try simp only [Act.put, List.setIfInBounds_toArray, List.set_cons_zero, List.set_cons_succ]
  refine takeZ (i := 15) (v := .bool true) rfl (by kernel_rfl) (by kernel_rfl) (by kernel_rfl) (by kernel_rfl) (fun _ _ _ h => h) (Or.inl ⟨by rfl, ?_⟩) hS3 ?_
  · intro w' hSw; (try dsimp only at hSw); go_simp
  try simp only [Act.put, List.setIfInBounds_toArray, List.set_cons_zero, List.set_cons_succ]
  refine takeZ (i := 16) (v := .bool true) rfl (by kernel_rfl) (by kernel_rfl) (by kernel_rfl) (by kernel_rfl) (fun _ _ _ h => h) (Or.inl ⟨by rfl, ?_⟩) hS3 ?_
  · intro w' hSw; (try dsimp only at hSw); go_simp
  try simp only [Act.put, List.setIfInBounds_toArray, List.set_cons_zero, List.set_cons_succ]
  refine takeZ (i := 17) (v := .pointer (some ⟨w.heap.size, 1, none⟩)) rfl (by kernel_rfl) (by kernel_rfl) (by kernel_rfl) (by kernel_rfl) (fun _ _ _ h => h) (Or.inl ⟨by rfl, ?_⟩) hS3 ?_
  · intro w' hSw; (try dsimp only at hSw); go_simp
  try simp only [Act.put, List.setIfInBounds_toArray, List.set_cons_zero, List.set_cons_succ]
  refine takeZ (i := 18) (v := .string y) rfl (by kernel_rfl) (by kernel_rfl) (by kernel_rfl) (by kernel_rfl) (fun _ _ _ h => h) (Or.inl ⟨by rfl, ?_⟩) hS3 ?_
  · intro w' hSw; (try dsimp only at hSw); go_simp
  try simp only [Act.put, List.setIfInBounds_toArray, List.set_cons_zero, List.set_cons_succ]
  refine takeZ (i := 20) (v := .pointer (some ⟨w.heap.size, 1, none⟩)) rfl (by kernel_rfl) (by kernel_rfl) (by kernel_rfl) (by kernel_rfl) (fun _ _ _ h => h) (Or.inl ⟨by rfl, ?_⟩) hS3 ?_
  · intro w' hSw; (try dsimp only at hSw); go_simp
  try simp only [Act.put, List.setIfInBounds_toArray, List.set_cons_zero, List.set_cons_succ]
  refine takeZ (i := 21) (v := .string y) rfl (by kernel_rfl) (by kernel_rfl) (by kernel_rfl) (by kernel_rfl) (fun _ _ _ h => h) (Or.inl ⟨by rfl, ?_⟩) hS3 ?_
  · intro w' hSw; (try dsimp only at hSw); go_simp
  try simp only [Act.put, List.setIfInBounds_toArray, List.set_cons_zero, List.set_cons_succ]
  refine stepZ (i := 19) (by kernel_rfl) rfl (fun K hK => ?_)
  go_simp
  go_at_call 58
  (with_reducible refine (trim7 y v _ HY.out H4.out).mono ?_)
  rintro e4 w4 ⟨rfl, hb4⟩
  have G4 := Lib.hid (BelowG G3.out (by simp) hb4)
  have hS4 : w4.cell? ⟨w.heap.size, 0, none⟩ = some (.string x) ∧ w4.cell? ⟨w.heap.size, 1, none⟩ = some (.string y) := HK.out _ G4.out
  clear hb4
  go_wp2_with fail
  refine hK.out _ _ (fun _ => hS4) (fun _ => ?_)
  clear hK K hS3
  try simp only [Act.put, List.setIfInBounds_toArray, List.set_cons_zero, List.set_cons_succ]
  refine takeZ (i := 22) (v := .bool q) rfl (by kernel_rfl) (by kernel_rfl) (by kernel_rfl) (by kernel_rfl) (fun _ _ _ h => h) (Or.inl ⟨by rfl, ?_⟩) hS4 ?_
  · intro w' hSw; (try dsimp only at hSw); go_simp
  try simp only [Act.put, List.setIfInBounds_toArray, List.set_cons_zero, List.set_cons_succ]
  refine takeZ (i := 23) (v := .bool q) rfl (by kernel_rfl) (by kernel_rfl) (by kernel_rfl) (by kernel_rfl) (fun _ _ _ h => h) (Or.inl ⟨by rfl, ?_⟩) hS4 ?_
  · intro w' hSw; (try dsimp only at hSw); go_simp
  try simp only [Act.put, List.setIfInBounds_toArray, List.set_cons_zero, List.set_cons_succ]
  refine stepZ (i := 24) (by kernel_rfl) rfl (fun K hK => ?_)
  go_simp
  refine hK.out _ _ (fun h => absurd rfl h) (fun _ => ?_)
  clear hK K
  try simp only [Act.put, List.setIfInBounds_toArray, List.set_cons_zero, List.set_cons_succ]
  refine doneZ (by kernel_rfl) ?_ _
  refine NoPanic.normal ?_
  go_wp2_with fail
  go_ret
  exact ⟨rfl, HF.out _ G4.out⟩
theorem may14 (x y : ByteArray) (q : Bool) (w : World) (hx : x.size ≤ 1000000) (hy : y.size ≤ 1000000) (h : mayP ⟨x.data.toList, y.data.toList⟩ = q) : Calls Try.prog 40 #[.agg #[.string x, .string y]] w fun e w' => e = .returned (.bool q) ∧ Below w.heap.size w w' := by
  have hq : ((As.isTok x.data.toList && decide (As.lows x.data.toList = x.data.toList)) && As.plain y.data.toList && decide (As.trim y.data.toList = y.data.toList)) = q := h
  have e1 : ((lowS x).toList == x.toList) = decide (As.lows x.data.toList = x.data.toList) := seq_l _ _
  have e2 : ((trimS y).toList == y.toList) = decide (As.trim y.data.toList = y.data.toList) := seq_l _ _
  rw [← e1, ← e2] at hq
  cases h1 : As.isTok x.data.toList with
  | false =>
    obtain rfl : false = q := by rw [← hq, h1]; rfl
    exact may14_0 x y w hx hy h1
  | true =>
    cases k1 : ((lowS x).toList == x.toList) with
    | false =>
      obtain rfl : false = q := by rw [← hq, h1, k1]; rfl
      exact may14_1 x y _ w hx hy h1 rfl k1
    | true =>
      cases h3 : As.plain y.data.toList with
      | false =>
        obtain rfl : false = q := by rw [← hq, h1, k1, h3]; rfl
        exact may14_2 x y _ w hx hy h1 rfl k1 h3
      | true => exact may14_3 x y _ w hx hy _ q h1 rfl k1 h3 rfl (by rw [← hq, h1, k1, h3]; rfl)
end Hx
end Go.Proofs.Ytfdhogaknlabkaa
