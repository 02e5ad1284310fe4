/-
  Texts of one seat, put together: SrbG.
-/
import Derived.Test.YteobcohjikjalaaGreatDoorSp34
set_option linter.unusedSimpArgs false
namespace Go.Proofs.YteobcohjikjalaaGreatDoor
open Go.RowKit
namespace Hx
open Lx Tr Tx Nmb Es Ns
set_option maxRecDepth 100000
set_option maxHeartbeats 16000000
set_option linter.unusedVariables false
set_option linter.unusedSimpArgs false

theorem step_append_ab {w : World} {base : Nat} {ops : Array Oper} {o : Oper} {a : Act} {K : Act → World → Prop} {Q : Exit → Act → World → Prop} {E : Prop} (hgd : o.guard = none) (s x : Operand)
    (ho : o.op = .call { callee := .builtin .append, args := #[s, x], argTypes := #[37, 37] })
    (L : List AB) (A : Option Addr) (c : Nat) (hs : a.eval s = .slice A L.length c) (hown : w.ownsRow base 41 3 (.slice A L.length c) L.length (L.flatMap abCells)) (b : AB) (bk : Nat) (hx : a.eval x = .slice (some ⟨bk, 0, none⟩) 1 1)
    (hc : ∀ (j : Nat) (u : Value), (abCells b)[j]? = some u → w.cell? ((⟨bk, 0, none⟩ : Addr).add j) = some u) (hb : L.length ≤ 10000000) (hbase : base ≤ w.heap.size)
    (hk : ∀ A' c' w', w'.ownsRow base 41 3 (.slice A' (L.length + 1) c') (L.length + 1) (L.flatMap abCells ++ abCells b) → w.grownBy w' (Value.slice A L.length c).ownBlock → ((Value.slice A' (L.length + 1) c').ownBlock = (Value.slice A L.length c).ownBlock ∨ (Value.slice A' (L.length + 1) c').ownBlock = some w.heap.size) → K (a.put o.dst (.slice A' (L.length + 1) c')) w') : if Region.wanted o (yielded ops a.tmps) = true then Oper.wp Tryz.prog o a w K Q else E := by
  have hw : Region.wanted o (yielded ops a.tmps) = true := by simp [Region.wanted, hgd]
  rw [if_pos hw]
  obtain ⟨i0, hi, hz0, hz1, hz2⟩ := info_parts infoAt
  obtain ⟨v', w', hr, h2, h3, _, h5⟩ := run_append_own_at (P := Tryz.prog) w base 37 o.type 41 i0 _ 3 48 Tryz.underlying37 hi hz0 hz1 hz2 rfl (by decide) (.slice A L.length c) L.length _ hown ⟨bk, 0, none⟩ 1 1 (abCells b) rfl hc (by simp [abCells, Value.oneCell']) (by unfold maxLen; omega) (by omega) hbase
  obtain ⟨A', c', rfl⟩ := own_form2 h2
  unfold Oper.wp execOp
  simp only [ho, resolve, invoke, builtin, Sem.run_bind, Sem.run_pure, Result.andThen_ok, List.map_toArray, List.map_cons, List.map_nil, hs, hx, hr]
  exact hk A' c' w' h2 h3 h5
theorem dg_bound (n : Nat) : (dg n).length ≤ n + 1 := by
  induction n using Nat.strongRecOn with
  | _ n ih =>
    rw [dg]
    split
    · simp
    · have := ih (n / 10) (by omega)
      rw [List.length_append, List.length_singleton]
      omega
theorem set_at {w : World} {b : Nat} {cur : Array Value} {T : TypeId} (h : w.heap[b]? = some (.cells cur T (0, 0))) (j : Nat) (x : Value) : (w.setCell ⟨b, j, none⟩ x).heap[b]? = some (.cells (cur.setIfInBounds j x) T (0, 0)) := by simp [World.setCell, Array.getElem?_modify, h]
theorem dig_str (k : Nat) : ∃ t : ByteArray, t = ⟨(dg k).toArray⟩ ∧ t.data.toList = dg k := ⟨_, rfl, rfl⟩

theorem rtold11 (outer : ByteArray) (n : Nd) (x y z : ByteArray) (A1 : Option Addr) (m c1 : Nat) (mm : Int) (w : World) (hin : NdIn n x y z A1 c1 w (fun b => b < w.heap.size)) (hsm : SmallN n) (hm : n.attrs.length = m) (hmm : n.many = mm) :
    Calls Tryz.prog 74 #[.agg #[.int .u8 1, .string x, .string y, .slice A1 m c1, .string z, .int .i64 mm], .string outer] w (RtoldBTo outer.data.toList n w) := by
  obtain ⟨j0, hi, hz0, hz1, hz2⟩ := info_parts infoAt
  have HI := Lib.hid hi
  have HZ0 := Lib.hid hz0
  have HZ1 := Lib.hid hz1
  have HZ2 := Lib.hid hz2
  have HIN := Lib.hid hin
  have HSM := Lib.hid hsm
  have HM := Lib.hid hm
  have HMM := Lib.hid hmm
  have hm6 : m ≤ 1000000 := by rw [← hm]; exact hsm.attrs
  have HM6 := Lib.hid hm6
  obtain ⟨W1, hW1⟩ : ∃ W1, w.alloc (.cells #[.int .u8 1, .string x, .string y, .slice A1 m c1, .string z, .int .i64 mm] 39) = W1 := ⟨_, rfl⟩
  have hs1 : W1.heap.size = w.heap.size + 1 := by rw [← hW1]; exact World.size_alloc _ _
  have hg1 : W1.heap[w.heap.size]? = some (.cells #[.int .u8 1, .string x, .string y, .slice A1 m c1, .string z, .int .i64 mm] 39 (0, 0)) := by rw [← hW1]; exact heap_alloc_new w _
  have hb1 : Below w.heap.size w W1 := by rw [← hW1]; exact stpA (Below.refl _ _) _
  obtain ⟨W2, hW2⟩ : ∃ W2, W1.alloc (.cells #[.int .u8 0, .string ⟨#[]⟩, .string ⟨#[]⟩, .slice none 0 0, .string ⟨#[]⟩, .int .i64 0] 39) = W2 := ⟨_, rfl⟩
  have hs2 : W2.heap.size = w.heap.size + 1 + 1 := by rw [← hW2, World.size_alloc, hs1]
  have hg2 : W2.heap[w.heap.size + 1]? = some (.cells zNd6 39 (0, 0)) := by rw [← hW2, ← hs1]; exact heap_alloc_new W1 _
  have hg21 : W2.heap[w.heap.size]? = some (.cells #[.int .u8 1, .string x, .string y, .slice A1 m c1, .string z, .int .i64 mm] 39 (0, 0)) := by rw [← hW2]; exact (Below.heap_alloc W1 _ _ (lt_heap hg1)).trans hg1
  have hb2 : Below w.heap.size w W2 := by rw [← hW2]; exact stpA hb1 _
  have HS2 := Lib.hid hs2
  have HG2 := Lib.hid hg2
  have HG21 := Lib.hid hg21
  have HB2 := Lib.hid hb2
  have n1 := cellV W2 _ 1 _ _ _ hg21
  have n2 := cellV W2 _ 2 _ _ _ hg21
  have n5 := cellV W2 _ 5 _ _ _ hg21
  clear hin hsm hm hmm hi hz0 hz1 hz2 hg1 hb1 hg2 hg21 hb2
  go_enter Tryz.func74, Tryz.ntmps74
  go_upto_if 18 with fail
  obtain ⟨W3, hW3, hr3, hb3⟩ := opnV W2 (.cells #[.int .u8 1, .string ⟨#[]⟩, .string y, .slice none 0 0, .string ⟨#[]⟩, .int .i64 mm] 39)
  rw [hW3]
  have hs3 : W3.heap.size = w.heap.size + 1 + 1 + 1 := by rw [← hW3, World.size_alloc, HS2.out]
  rw [HS2.out] at hr3
  have HS3 := Lib.hid hs3
  have HB23 := Lib.hid hb3
  have HR3 := Lib.hid hr3
  have HN3 := Lib.hid (kept_heap HG21.out hb3)
  have HZ3 := Lib.hid (kept_heap HG2.out hb3)
  have HB3 : Hid (Below w.heap.size w W3) := Lib.hid (HB2.out.trans (hb3.mono HB2.out.size))
  have m1 := cellV W3 _ 1 _ _ _ HN3.out
  have m3 := cellV W3 _ 3 _ _ _ HR3.out
  have f3 := freeV W3 _ 3 _ _ HR3.out
  have HX : Hid (x.data.toList = n.space) := Lib.hid HIN.out.space
  clear hW3 hr3 hb3 n1 n2 n5 hs2 hW1 hs1 hW2 hs3
  go_cut [] (fun wx => ∃ (L : List AB) (A3 : Option Addr) (c3 : Nat), BlSt (w.heap.size + 1 + 1) y mm W3 (w.heap.size + 1 + 1 + 1) (.slice none 0 0) [] L A3 c3 wx ∧ L.map abVal = ownD outer.data.toList n ∧ L.length ≤ 1)
  case first =>
    have hB0 : BlSt (w.heap.size + 1 + 1) y mm W3 (w.heap.size + 1 + 1 + 1) (.slice none 0 0) [] [] none 0 W3 := ⟨World.ownsRow_nil _ _ _ _, HR3.out, Below.refl _ _, World.ownsRow_nil _ _ _ _, (fun g h => by cases h), Nat.lt_succ_self _, by rw [HS3.out]; omega⟩
    have HB0 := Lib.hid hB0
    cases hq : (x.toList == outer.toList) with
    | true =>
      have hso : n.space = outer.data.toList := by rw [← HX.out]; rw [seq_l] at hq; exact of_decide_eq_true hq
      clear hB0
      go_wp2_with fail
      go_meet
      exact ⟨[], none, 0, HB0.out, by unfold ownD; rw [if_pos hso]; rfl, Nat.zero_le _⟩
    | false =>
      have hso : n.space ≠ outer.data.toList := by rw [← HX.out]; rw [seq_l] at hq; exact of_decide_eq_false hq
      clear hB0
      go_wp2_with (first
        | (at_builtin; refine wpList_append_own_at _ rfl (.tmp 20) (.tmp 24) 37 rfl (w.heap.size + 1 + 1 + 1) 41 j0 (.agg #[.string ⟨#[]⟩, .string ⟨#[]⟩, .string ⟨#[]⟩]) 3 48 Tryz.underlying37 HI.out HZ0.out HZ1.out HZ2.out rfl (by decide) _ 0 _ rfl (own_belowK HB0.out.own (stpA (Below.refl _ _) _) (Nat.le_refl _)) ⟨W3.heap.size, 0, none⟩ 1 1 [.string ⟨#[]⟩, .string ⟨#[120, 109, 108, 110, 115]⟩, .string x] rfl rfl (new_at W3 [.string ⟨#[]⟩, .string ⟨#[120, 109, 108, 110, 115]⟩, .string x] 41 W3.heap.size rfl) (by simp [Value.oneCell']) (by skip; unfold maxLen; omega) (by skip; omega) (by rw [World.size_alloc]; have := HS3.out; omega) ?_; intro v5 w9 hown9 hgr9 _ hlie9; obtain ⟨A5, c5, rfl⟩ := own_form2 hown9; have HS9 := Lib.hid (HB0.out.push ⟨⟨#[]⟩, ⟨#[120, 109, 108, 110, 115]⟩, x⟩ (stpA (Below.refl _ _) _) hgr9 hlie9 hown9); have hx9 := HB0.out.box9 (stpA (Below.refl _ _) _) hgr9; have p93 := cellV w9 _ 3 _ _ _ hx9; have f93 := freeV w9 _ 3 _ _ hx9; clear hown9 hgr9 hx9 hlie9)
        | fail)
      go_meet
      exact ⟨_, _, _, HS9.out, by unfold ownD; rw [if_neg hso, ← HX.out]; rfl, Nat.le_refl _⟩
  case rest =>
    obtain ⟨L0, A3, c3, hst0, hL0, hL1⟩ := hcut
    have HST0 := Lib.hid hst0
    have HL0 := Lib.hid hL0
    have HNB : Hid (∀ W, Below (w.heap.size + 1 + 1) W3 W → W.heap[w.heap.size]? = some (.cells #[.int .u8 1, .string x, .string y, .slice A1 m c1, .string z, .int .i64 mm] 39 (0, 0))) := Lib.hid fun W h => (h.block _ (by omega)).trans HN3.out
    have HWB : Hid (∀ W, Below (w.heap.size + 1 + 1) W3 W → Below w.heap.size w W) := Lib.hid fun W h => HB3.out.trans (h.mono (by omega))
    have HAT : Hid (∀ W, Below (w.heap.size + 1 + 1) W3 W → RdB AtS W A1 n.attrs) := Lib.hid fun W h => RdB.on (w := w) HIN.out.attrs (HWB.out W h)
    have p13 := cellV wc _ 3 _ _ _ (HNB.out wc hst0.below)
    have HSP := Lib.hid (rspaces11 A1 m c1 n.attrs wc (HAT.out wc hst0.below) HM.out HM6.out)
    clear hst0 hL0
    go_wp2_with (first
      | (go_at_call 86; (with_reducible refine (HSP.out).mono ?_); rintro e4 w4 ⟨A4, c4, S, rfl, hS4, hso4, hb4⟩; have HS4 := Lib.hid hS4; have HST4 := Lib.hid (HST0.out.told hb4 hso4); clear hS4 hso4 hb4)
      | fail)
    have HSL : Hid (S.length ≤ 1000000) := Lib.hid (by
      have h1 := spacesL_lens n.attrs []
      rw [← HS4.out, List.length_map, HM.out] at h1
      have := HM6.out
      simp at h1
      omega)
    go_loopg [7] S.length (fun gg x7 wr => ∃ (j : Nat) (L : List AB) (A5 : Option Addr) (c5 : Nat), j + gg = S.length ∧ x7 = .int .i64 j ∧ BlSt (w.heap.size + 1 + 1) y mm W3 wc.heap.size (.slice A4 S.length c4) S L A5 c5 wr ∧ L.map abVal = ownD outer.data.toList n ++ numD 0 ((S.map (·.data.toList)).take j) ∧ L.length ≤ 1 + j)
    case atStart => exact ⟨0, L0, A3, c3, by omega, rfl, HST4.out, by rw [List.take_zero, HL0.out]; simp [numD], by omega⟩
    case round =>
      obtain ⟨j, L, A5, c5, hjg, rfl, hst, hL, hlb⟩ := hrel
      rename World => wr
      have HST := Lib.hid hst
      have HL := Lib.hid hL
      have HLB : Hid (L.length ≤ 1000001) := Lib.hid (by have := HSL.out; omega)
      have HLJ := Lib.hid hlb
      have slb : (S.length : Int) ≤ 1000000 := by have := HSL.out; omega
      by_cases hlt : j < S.length
      · have bj : (0 : Int) ≤ (j : Int) ∧ (j : Int) < (S.length : Int) := by omega
        obtain ⟨j1, hj1⟩ : ∃ j1, j + 1 = j1 := ⟨_, rfl⟩
        have ej1 : (j : Int) + 1 = (j1 : Int) := by omega
        have bj1 : (0 : Int) ≤ (j1 : Int) ∧ (j1 : Int) ≤ 1000001 := by omega
        have wj1 : IntKind.i64.wrap (j1 : Int) = (j1 : Int) := IntWalk.i64_in _ (by omega)
        obtain ⟨gs, cs, hvs, hcs, hgs1, hgs2, hgs3⟩ := hst.sat hlt
        injection hvs with hA4 _ hc4
        subst hA4
        subst hc4
        obtain ⟨sj, hsj⟩ : ∃ sj, S[j]'hlt = sj := ⟨_, rfl⟩
        rw [hsj] at hcs
        have HGS := Lib.hid (And.intro hgs2 hgs3)
        have HSS : Hid (∀ W, Below wr.heap.size wr W → W.cell? ⟨w.heap.size + 1 + 1, 3, none⟩ = some (.slice A5 L.length c5) ∧ W.cell? ⟨gs, j, none⟩ = some (.string sj)) := Lib.hid fun W h => ⟨cellV W _ 3 _ _ _ (HST.out.on h).box, (h.cell (p := ⟨gs, j, none⟩) hgs3).trans hcs⟩
        obtain ⟨td, htd, htl⟩ := dig_str (j + 1)
        have HDG : Hid (∀ W, Calls Tryz.prog 87 #[.int .i64 j1] W fun e w' => e = .returned (.string td) ∧ Below W.heap.size W w') := Lib.hid fun W => by rw [← hj1]; exact rdigits6 (j + 1) W (by have := HSL.out; omega) td htd
        have htz : td.size ≤ 1000010 := by
          rw [← ba_len5, htl]
          have := dg_bound (j + 1)
          have := HSL.out
          omega
        obtain ⟨nm, hnm⟩ : ∃ nm, (⟨#[120, 109, 108, 110, 115, 58, 110]⟩ : ByteArray) ++ td = nm := ⟨_, rfl⟩
        have t1 : ∀ W, (Op.stringOp .add ⟨#[120, 109, 108, 110, 115, 58, 110]⟩ td).run Tryz.prog W = .ok (.string nm) W := fun W => by rw [run_string_add_sum W ⟨#[120, 109, 108, 110, 115, 58, 110]⟩ td (by show 7 + td.size ≤ _; omega), hnm]
        have HNM : Hid (nm.data.toList = xmlns5 ++ 58 :: prefN j) := Lib.hid (by
          rw [← hnm, ByteArray.data_append, Array.toList_append, htl]
          rfl)
        have HSJ : Hid ((S.map (·.data.toList)).take (j + 1) = (S.map (·.data.toList)).take j ++ [sj.data.toList]) := Lib.hid (by
          rw [List.take_succ_eq_append_getElem (by rw [List.length_map]; exact hlt), List.getElem_map, hsj])
        have HJ1 := Lib.hid hj1
        clear hst hL hlb hcs hgs1 hgs2 hgs3 hsj hj1 htd htl hnm htz
        go_wp2_with fail
        refine wp_region_noPanic ?_
        refine wp_region_Z (fun W => W.cell? ⟨w.heap.size + 1 + 1, 3, none⟩ = some (.slice A5 L.length c5) ∧ W.cell? ⟨gs, j, none⟩ = some (.string sj)) 14 (by kernel_rfl) ?_
        have hS := HSS.out wr.drew (Below.refl _ _).drew
        refine takeZ (i := 0) (v := .pointer (some ⟨w.heap.size + 1 + 1, 3, none⟩)) rfl (by kernel_rfl) (by kernel_rfl) (by kernel_rfl) (by kernel_rfl) (fun _ _ _ h => h) (Or.inl ⟨by rfl, ?_⟩) hS ?_
        · intro w' hSw; (try dsimp only at hSw); obtain ⟨s0, s1⟩ := hSw; go_simp
        try simp only [Act.put, List.setIfInBounds_toArray, List.set_cons_zero, List.set_cons_succ]
        refine takeZ (i := 1) (v := .slice A5 L.length c5) rfl (by kernel_rfl) (by kernel_rfl) (by kernel_rfl) (by kernel_rfl) (fun _ _ _ h => h) (Or.inl ⟨by rfl, ?_⟩) hS ?_
        · intro w' hSw; (try dsimp only at hSw); obtain ⟨s0, s1⟩ := hSw; go_simp
        try simp only [Act.put, List.setIfInBounds_toArray, List.set_cons_zero, List.set_cons_succ]
        refine takeZ (i := 2) (v := .int .i64 j) rfl (by kernel_rfl) (by kernel_rfl) (by kernel_rfl) (by kernel_rfl) (fun _ _ _ h => h) (Or.inl ⟨by rfl, ?_⟩) hS ?_
        · intro w' hSw; (try dsimp only at hSw); obtain ⟨s0, s1⟩ := hSw; go_simp
        try simp only [Act.put, List.setIfInBounds_toArray, List.set_cons_zero, List.set_cons_succ]
        refine takeZ (i := 3) (v := .int .i64 j1) rfl (by kernel_rfl) (by kernel_rfl) (by kernel_rfl) (by kernel_rfl) (fun _ _ _ h => h) (Or.inl ⟨by rfl, ?_⟩) hS ?_
        · intro w' hSw; (try dsimp only at hSw); obtain ⟨s0, s1⟩ := hSw; go_simp
        try simp only [Act.put, List.setIfInBounds_toArray, List.set_cons_zero, List.set_cons_succ]
        refine takeZ (i := 6) (v := .slice (some ⟨gs, 0, none⟩) S.length c4) rfl (by kernel_rfl) (by kernel_rfl) (by kernel_rfl) (by kernel_rfl) (fun _ _ _ h => h) (Or.inl ⟨by rfl, ?_⟩) hS ?_
        · intro w' hSw; (try dsimp only at hSw); obtain ⟨s0, s1⟩ := hSw; go_simp
        try simp only [Act.put, List.setIfInBounds_toArray, List.set_cons_zero, List.set_cons_succ]
        refine takeZ (i := 7) (v := .int .i64 j) rfl (by kernel_rfl) (by kernel_rfl) (by kernel_rfl) (by kernel_rfl) (fun _ _ _ h => h) (Or.inl ⟨by rfl, ?_⟩) hS ?_
        · intro w' hSw; (try dsimp only at hSw); obtain ⟨s0, s1⟩ := hSw; go_simp
        try simp only [Act.put, List.setIfInBounds_toArray, List.set_cons_zero, List.set_cons_succ]
        refine takeZ (i := 8) (v := .pointer (some ⟨gs, j, none⟩)) rfl (by kernel_rfl) (by kernel_rfl) (by kernel_rfl) (by kernel_rfl) (fun _ _ _ h => h) (Or.inl ⟨by rfl, ?_⟩) hS ?_
        · intro w' hSw; (try dsimp only at hSw); obtain ⟨s0, s1⟩ := hSw; go_simp
        try simp only [Act.put, List.setIfInBounds_toArray, List.set_cons_zero, List.set_cons_succ]
        refine takeZ (i := 9) (v := .string sj) rfl (by kernel_rfl) (by kernel_rfl) (by kernel_rfl) (by kernel_rfl) (fun _ _ _ h => h) (Or.inl ⟨by rfl, ?_⟩) hS ?_
        · intro w' hSw; (try dsimp only at hSw); obtain ⟨s0, s1⟩ := hSw; go_simp
        try simp only [Act.put, List.setIfInBounds_toArray, List.set_cons_zero, List.set_cons_succ]
        refine stepZ (i := 4) (by kernel_rfl) rfl (fun K hK => ?_)
        go_simp
        go_at_call 87; (with_reducible refine (HDG.out _).mono ?_); rintro e6 w6 ⟨rfl, hb6⟩
        have HB6 : Hid (Below wr.heap.size wr w6) := Lib.hid ((Below.refl wr.heap.size wr).drew.trans hb6)
        clear hb6
        go_wp2_with fail
        have hS := HSS.out w6 HB6.out
        refine hK.out _ _ (fun _ => hS) (fun _ => ?_)
        clear hK K
        try simp only [Act.put, List.setIfInBounds_toArray, List.set_cons_zero, List.set_cons_succ]
        refine takeZ (i := 5) (v := .string nm) rfl (by kernel_rfl) (by kernel_rfl) (by kernel_rfl) (by kernel_rfl) (fun _ _ _ h => h) (Or.inl ⟨by rfl, ?_⟩) hS ?_
        · intro w' hSw; (try dsimp only at hSw); obtain ⟨s0, s1⟩ := hSw; go_simp
        try simp only [Act.put, List.setIfInBounds_toArray, List.set_cons_zero, List.set_cons_succ]
        refine takeZ (i := 10) (v := .agg #[.string ⟨#[]⟩, .string nm, .string sj]) rfl (by kernel_rfl) (by kernel_rfl) (by kernel_rfl) (by kernel_rfl) (fun _ _ _ h => h) (Or.inl ⟨by rfl, ?_⟩) hS ?_
        · intro w' hSw; (try dsimp only at hSw); obtain ⟨s0, s1⟩ := hSw; go_simp
        try simp only [Act.put, List.setIfInBounds_toArray, List.set_cons_zero, List.set_cons_succ]
        obtain ⟨w7, hw7⟩ : ∃ W', w6.alloc (.cells #[.string ⟨#[]⟩, .string nm, .string sj] 41) = W' := ⟨_, rfl⟩
        have HB7 : Hid (Below wr.heap.size wr w7) := Lib.hid (by rw [← hw7]; exact stpA HB6.out _)
        have HG7 : Hid (w7.heap[w6.heap.size]? = some (.cells #[.string ⟨#[]⟩, .string nm, .string sj] 41 (0, 0))) := Lib.hid (by rw [← hw7]; exact heap_alloc_new w6 _)
        have hS7 := HSS.out w7 HB7.out
        refine stepZ (i := 11) (by kernel_rfl) rfl (fun K hK => ?_)
        go_simp
        refine hK.out _ _ (fun _ => hS7) (fun _ => ?_)
        clear hK K hw7
        try simp only [Act.put, List.setIfInBounds_toArray, List.set_cons_zero, List.set_cons_succ]
        refine stepZ (i := 12) (by kernel_rfl) rfl (fun K hK => ?_)
        refine step_append_ab rfl (.tmp 37) (.tmp 47) rfl L A5 c5 rfl (HST.out.on HB7.out).own ⟨⟨#[]⟩, nm, sj⟩ w6.heap.size rfl (blk_at HG7.out) (by have := HLB.out; omega) (by have := (HST.out.on HB7.out).lt; omega) ?_
        intro A9 c9 w9 hown9 hgr9 hlie9
        have HP9 := Lib.hid (HST.out.push ⟨⟨#[]⟩, nm, sj⟩ HB7.out hgr9 hlie9 hown9)
        have hx9 := HST.out.box9 HB7.out hgr9
        have p93 := cellV w9 _ 3 _ _ _ hx9
        have f93 := freeV w9 _ 3 _ _ hx9
        have hS9 : w9.cell? ⟨w.heap.size + 1 + 1, 3, none⟩ = some (.slice A5 L.length c5) ∧ w9.cell? ⟨gs, j, none⟩ = some (.string sj) := ⟨p93, (hgr9.cell_far ⟨gs, j, none⟩ (by have := HGS.out.2; have := HB7.out.size; show gs < _; omega) (fun e => HGS.out.1 e.symm)).trans hS7.2⟩
        clear hown9 hgr9 hlie9 hx9
        refine hK.out _ _ (fun _ => hS9) (fun _ => ?_)
        clear hK K
        try simp only [Act.put, List.setIfInBounds_toArray, List.set_cons_zero, List.set_cons_succ]
        refine stepZ (i := 13) (by kernel_rfl) rfl (fun K hK => ?_)
        go_simp
        refine hK.out _ _ (fun _ => hS9) (fun _ => ?_)
        clear hK K
        try simp only [Act.put, List.setIfInBounds_toArray, List.set_cons_zero, List.set_cons_succ]
        refine stepZ (i := 14) (by kernel_rfl) rfl (fun K hK => ?_)
        go_simp
        refine hK.out _ _ (fun h => absurd rfl h) (fun _ => ?_)
        clear hK K
        try simp only [Act.put, List.setIfInBounds_toArray, List.set_cons_zero, List.set_cons_succ]
        refine doneZ (by kernel_rfl) ?_ _
        refine NoPanic.normal ?_
        go_wp2_with fail
        go_roundg (gk - 1)
        case measure => omega
        case rel =>
          refine ⟨j + 1, L ++ [⟨⟨#[]⟩, nm, sj⟩], A9, c9, by omega, by go_num, HP9.out, ?_, by rw [List.length_append]; have := HLJ.out; show L.length + 1 ≤ _; omega⟩
          rw [List.map_append, HL.out, HSJ.out, numD_snocs, List.append_assoc]
          congr 2
          rw [List.length_take, List.length_map, Nat.min_eq_left (by omega), Nat.zero_add]
          show [abVal _] = _
          unfold abVal
          dsimp only
          rw [HNM.out]
      · obtain rfl : j = S.length := by omega
        have HBW : Hid (Below (w.heap.size + 1 + 1) W3 wr) := Lib.hid hst.below
        have hL1 : L.map abVal = ownD outer.data.toList n ++ numD 0 (S.map (·.data.toList)) := by
          rw [hL, List.take_of_length_le (by rw [List.length_map]; exact Nat.le_refl _)]
        have HLB0 := Lib.hid hL1
        have p33 := cellV wr _ 3 _ _ _ (HNB.out wr hst.below)
        have hjj : ¬ ((S.length : Int) < (S.length : Int)) := by omega
        clear hst hL hlb hL1
        go_wp2_with fail
        go_loopg [8, 9] m (fun gg x8 x9 wq => ∃ (k : Nat) (L : List AB) (A5 : Option Addr) (c5 : Nat), k + gg = m ∧ x8 = .int .i64 k ∧ BlSt (w.heap.size + 1 + 1) y mm W3 wc.heap.size (.slice A4 S.length c4) S L A5 c5 wq ∧ L.map abVal = ownD outer.data.toList n ++ (numD 0 (S.map (·.data.toList)) ++ (n.attrs.take k).map (bareA (S.map (·.data.toList)))) ∧ L.length ≤ 1000001 + k)
        case atStart => exact ⟨0, L, A5, c5, by omega, rfl, HST.out, by rw [List.take_zero, HLB0.out]; simp, by have := HLB.out; omega⟩
        case round =>
          rename World => wq
          clear HST HL HLB HLJ p33
          obtain ⟨k, L, A5, c5, hkg, rfl, hst, hL, hlb⟩ := hrel
          have HST := Lib.hid hst
          have HL := Lib.hid hL
          have HLK := Lib.hid hlb
          have HNB4 : Hid (∀ W, Below wq.heap.size wq W → W.heap[w.heap.size]? = some (.cells #[.int .u8 1, .string x, .string y, .slice A1 m c1, .string z, .int .i64 mm] 39 (0, 0))) := Lib.hid fun W h => HNB.out W (hst.below.trans (h.mono (Nat.le_of_lt hst.lt)))
          have p43 := cellV wq _ 3 _ _ _ (HNB4.out wq (Below.refl _ _))
          have mlb : (m : Int) ≤ 1000000 := by have := HM6.out; omega
          by_cases hlt : k < m
          · have hkl : k < n.attrs.length := by rw [HM.out]; exact hlt
            obtain ⟨b3, of3, x2, y2, z2, hA, hbB3, hx2, hy2, hz2, k0, k1, k2⟩ := at_at HIN.out.attrs hkl
            obtain ⟨a, ha⟩ : ∃ a, n.attrs[k]'hkl = a := ⟨_, rfl⟩
            rw [ha] at hx2 hy2 hz2
            have HXA := Lib.hid hx2
            have HYA := Lib.hid hy2
            have HZA := Lib.hid hz2
            have hwq : ∀ W, Below wq.heap.size wq W → Below w.heap.size w W := fun W h => HWB.out W (hst.below.trans (h.mono (Nat.le_of_lt hst.lt)))
            subst hA
            have HA2 : Hid (∀ W, Below wq.heap.size wq W → W.cell? ⟨w.heap.size, 3, none⟩ = some (.slice (some ⟨b3, of3, none⟩) m c1) ∧ W.cell? ⟨b3, of3 + k * 3 + 1, none⟩ = some (.string y2) ∧ W.cell? ⟨b3, of3 + k * 3 + 2, none⟩ = some (.string z2)) := Lib.hid fun W h => ⟨cellV W _ 3 _ _ _ (HNB4.out W h), ((hwq W h).cell (p := ⟨b3, _, none⟩) hbB3).trans k1, ((hwq W h).cell (p := ⟨b3, _, none⟩) hbB3).trans k2⟩
            have HA3 : Hid (∀ W, Below wq.heap.size wq W → W.cell? ⟨b3, of3 + k * 3, none⟩ = some (.string x2)) := Lib.hid fun W h => ((hwq W h).cell (p := ⟨b3, _, none⟩) hbB3).trans k0
            have HTK : Hid (n.attrs.take (k + 1) = n.attrs.take k ++ [a]) := Lib.hid (by rw [List.take_succ_eq_append_getElem hkl, ha])
            have HAM : Hid (a ∈ n.attrs) := Lib.hid (by rw [← ha]; exact List.getElem_mem hkl)
            have bk : (0 : Int) ≤ (k : Int) ∧ (k : Int) < (m : Int) := by omega
            clear hst hL hlb k0 k1 k2 hx2 hy2 hz2 ha hbB3 hwq
            go_wp2_with fail
            refine wp_region_noPanic ?_
            refine wp_region_Z (fun W => W.cell? ⟨w.heap.size, 3, none⟩ = some (.slice (some ⟨b3, of3, none⟩) m c1) ∧ W.cell? ⟨b3, of3 + k * 3 + 1, none⟩ = some (.string y2) ∧ W.cell? ⟨b3, of3 + k * 3 + 2, none⟩ = some (.string z2)) 14 (by kernel_rfl) ?_
            have hS := HA2.out wq.drew (Below.refl _ _).drew
            refine takeZ (i := 0) (v := .pointer (some ⟨w.heap.size, 3, none⟩)) rfl (by kernel_rfl) (by kernel_rfl) (by kernel_rfl) (by kernel_rfl) (fun _ _ _ h => h) (Or.inl ⟨by rfl, ?_⟩) hS ?_
            · intro w' hSw; (try dsimp only at hSw); obtain ⟨s0, s1, s2⟩ := hSw; go_simp
            try simp only [Act.put, List.setIfInBounds_toArray, List.set_cons_zero, List.set_cons_succ]
            refine takeZ (i := 1) (v := .slice (some ⟨b3, of3, none⟩) m c1) rfl (by kernel_rfl) (by kernel_rfl) (by kernel_rfl) (by kernel_rfl) (fun _ _ _ h => h) (Or.inl ⟨by rfl, ?_⟩) hS ?_
            · intro w' hSw; (try dsimp only at hSw); obtain ⟨s0, s1, s2⟩ := hSw; go_simp
            try simp only [Act.put, List.setIfInBounds_toArray, List.set_cons_zero, List.set_cons_succ]
            refine takeZ (i := 2) (v := .int .i64 k) rfl (by kernel_rfl) (by kernel_rfl) (by kernel_rfl) (by kernel_rfl) (fun _ _ _ h => h) (Or.inl ⟨by rfl, ?_⟩) hS ?_
            · intro w' hSw; (try dsimp only at hSw); obtain ⟨s0, s1, s2⟩ := hSw; go_simp
            try simp only [Act.put, List.setIfInBounds_toArray, List.set_cons_zero, List.set_cons_succ]
            refine takeZ (i := 3) (v := .pointer (some ⟨b3, of3 + k * 3, none⟩)) rfl (by kernel_rfl) (by kernel_rfl) (by kernel_rfl) (by kernel_rfl) (fun _ _ _ h => h) (Or.inl ⟨by rfl, ?_⟩) hS ?_
            · intro w' hSw; (try dsimp only at hSw); obtain ⟨s0, s1, s2⟩ := hSw; go_simp
            try simp only [Act.put, List.setIfInBounds_toArray, List.set_cons_zero, List.set_cons_succ]
            refine takeZ (i := 4) (v := .pointer (some ⟨b3, of3 + k * 3 + 1, none⟩)) rfl (by kernel_rfl) (by kernel_rfl) (by kernel_rfl) (by kernel_rfl) (fun _ _ _ h => h) (Or.inl ⟨by rfl, ?_⟩) hS ?_
            · intro w' hSw; (try dsimp only at hSw); obtain ⟨s0, s1, s2⟩ := hSw; go_simp
            try simp only [Act.put, List.setIfInBounds_toArray, List.set_cons_zero, List.set_cons_succ]
            refine takeZ (i := 5) (v := .string y2) rfl (by kernel_rfl) (by kernel_rfl) (by kernel_rfl) (by kernel_rfl) (fun _ _ _ h => h) (Or.inl ⟨by rfl, ?_⟩) hS ?_
            · intro w' hSw; (try dsimp only at hSw); obtain ⟨s0, s1, s2⟩ := hSw; go_simp
            try simp only [Act.put, List.setIfInBounds_toArray, List.set_cons_zero, List.set_cons_succ]
            refine takeZ (i := 6) (v := .pointer (some ⟨w.heap.size, 3, none⟩)) rfl (by kernel_rfl) (by kernel_rfl) (by kernel_rfl) (by kernel_rfl) (fun _ _ _ h => h) (Or.inl ⟨by rfl, ?_⟩) hS ?_
            · intro w' hSw; (try dsimp only at hSw); obtain ⟨s0, s1, s2⟩ := hSw; go_simp
            try simp only [Act.put, List.setIfInBounds_toArray, List.set_cons_zero, List.set_cons_succ]
            refine takeZ (i := 7) (v := .slice (some ⟨b3, of3, none⟩) m c1) rfl (by kernel_rfl) (by kernel_rfl) (by kernel_rfl) (by kernel_rfl) (fun _ _ _ h => h) (Or.inl ⟨by rfl, ?_⟩) hS ?_
            · intro w' hSw; (try dsimp only at hSw); obtain ⟨s0, s1, s2⟩ := hSw; go_simp
            try simp only [Act.put, List.setIfInBounds_toArray, List.set_cons_zero, List.set_cons_succ]
            refine takeZ (i := 8) (v := .int .i64 k) rfl (by kernel_rfl) (by kernel_rfl) (by kernel_rfl) (by kernel_rfl) (fun _ _ _ h => h) (Or.inl ⟨by rfl, ?_⟩) hS ?_
            · intro w' hSw; (try dsimp only at hSw); obtain ⟨s0, s1, s2⟩ := hSw; go_simp
            try simp only [Act.put, List.setIfInBounds_toArray, List.set_cons_zero, List.set_cons_succ]
            refine takeZ (i := 9) (v := .pointer (some ⟨b3, of3 + k * 3, none⟩)) rfl (by kernel_rfl) (by kernel_rfl) (by kernel_rfl) (by kernel_rfl) (fun _ _ _ h => h) (Or.inl ⟨by rfl, ?_⟩) hS ?_
            · intro w' hSw; (try dsimp only at hSw); obtain ⟨s0, s1, s2⟩ := hSw; go_simp
            try simp only [Act.put, List.setIfInBounds_toArray, List.set_cons_zero, List.set_cons_succ]
            refine takeZ (i := 10) (v := .pointer (some ⟨b3, of3 + k * 3 + 2, none⟩)) rfl (by kernel_rfl) (by kernel_rfl) (by kernel_rfl) (by kernel_rfl) (fun _ _ _ h => h) (Or.inl ⟨by rfl, ?_⟩) hS ?_
            · intro w' hSw; (try dsimp only at hSw); obtain ⟨s0, s1, s2⟩ := hSw; go_simp
            try simp only [Act.put, List.setIfInBounds_toArray, List.set_cons_zero, List.set_cons_succ]
            refine takeZ (i := 11) (v := .string z2) rfl (by kernel_rfl) (by kernel_rfl) (by kernel_rfl) (by kernel_rfl) (fun _ _ _ h => h) (Or.inl ⟨by rfl, ?_⟩) hS ?_
            · intro w' hSw; (try dsimp only at hSw); obtain ⟨s0, s1, s2⟩ := hSw; go_simp
            try simp only [Act.put, List.setIfInBounds_toArray, List.set_cons_zero, List.set_cons_succ]
            refine takeZ (i := 12) (v := .agg #[.string ⟨#[]⟩, .string y2, .string z2]) rfl (by kernel_rfl) (by kernel_rfl) (by kernel_rfl) (by kernel_rfl) (fun _ _ _ h => h) (Or.inl ⟨by rfl, ?_⟩) hS ?_
            · intro w' hSw; (try dsimp only at hSw); obtain ⟨s0, s1, s2⟩ := hSw; go_simp
            try simp only [Act.put, List.setIfInBounds_toArray, List.set_cons_zero, List.set_cons_succ]
            obtain ⟨w5, hw5⟩ : ∃ W', World.drew (World.alloc wq (.cells #[.string ⟨#[]⟩, .string ⟨#[]⟩, .string ⟨#[]⟩] 41)) = W' := ⟨_, rfl⟩
            have HB5 : Hid (Below wq.heap.size wq w5) := Lib.hid (by rw [← hw5]; exact (stpA (Below.refl wq.heap.size wq) _).drew)
            have hg5 : w5.heap[wq.heap.size]? = some (.cells #[.string ⟨#[]⟩, .string ⟨#[]⟩, .string ⟨#[]⟩] 41 (0, 0)) := by rw [← hw5]; exact heap_alloc_new wq _
            have hS5 := HA2.out w5 HB5.out
            refine stepZ (i := 13) (by kernel_rfl) rfl (fun K hK => ?_)
            go_simp
            refine hK.out _ _ (fun _ => hS5) (fun _ => ?_)
            clear hK K hw5
            try simp only [Act.put, List.setIfInBounds_toArray, List.set_cons_zero, List.set_cons_succ]
            have k50 := cellV w5 _ 0 _ _ _ hg5
            have k51 := cellV w5 _ 1 _ _ _ hg5
            have k52 := cellV w5 _ 2 _ _ _ hg5
            have f50 := freeV w5 _ 0 _ _ hg5
            have f51 := freeV w5 _ 1 _ _ hg5
            have f52 := freeV w5 _ 2 _ _ hg5
            refine stepZ (i := 14) (by kernel_rfl) rfl (fun K hK => ?_)
            go_simp
            refine hK.out _ _ (fun h => absurd rfl h) (fun _ => ?_)
            clear hK K
            try simp only [Act.put, List.setIfInBounds_toArray, List.set_cons_zero, List.set_cons_succ]
            refine doneZ (by kernel_rfl) ?_ _
            refine NoPanic.normal ?_
            obtain ⟨w6, hw6⟩ : ∃ W', ((w5.setCell ⟨wq.heap.size, 0, none⟩ (.string ⟨#[]⟩)).setCell ⟨wq.heap.size, 1, none⟩ (.string y2)).setCell ⟨wq.heap.size, 2, none⟩ (.string z2) = W' := ⟨_, rfl⟩
            have HG6 : Hid (w6.heap[wq.heap.size]? = some (.cells #[.string ⟨#[]⟩, .string y2, .string z2] 41 (0, 0))) := Lib.hid (by rw [← hw6]; exact set_at (set_at (set_at hg5 0 (.string ⟨#[]⟩)) 1 (.string y2)) 2 (.string z2))
            have HB6 : Hid (Below wq.heap.size wq w6) := Lib.hid (by rw [← hw6]; exact ((HB5.out.setCell (Nat.le_refl _) _).setCell (Nat.le_refl _) _).setCell (Nat.le_refl _) _)
            rw [hw6]
            clear hw6 hg5 hS hS5 k50 k51 k52 f50 f51 f52
            have r3 := cellV w6 _ 3 _ _ _ (HNB4.out w6 HB6.out)
            have r0 := HA3.out w6 HB6.out
            have r1 := cellV w6 _ 1 _ _ _ HG6.out
            have g1 := freeV w6 _ 1 _ _ HG6.out
            have r53 := cellV w6 _ 3 _ _ _ (HST.out.on HB6.out).box
            by_cases hxm : a.space = ofXml
            · have q1 : (x2.toList == [104, 116, 116, 112, 58, 47, 47, 119, 119, 119, 46, 119, 51, 46, 111, 114, 103, 47, 88, 77, 76, 47, 49, 57, 57, 56, 47, 110, 97, 109, 101, 115, 112, 97, 99, 101]) = true := by rw [ByteArray.toList_eq, HXA.out, hxm]; rfl
              obtain ⟨nm, hnm⟩ : ∃ nm, (⟨#[120, 109, 108, 58]⟩ : ByteArray) ++ y2 = nm := ⟨_, rfl⟩
              have ys : y2.size ≤ 1000000 := by rw [← ba_len5, HYA.out]; exact (HSM.out.each _ HAM.out).2.1
              have t1 : ∀ W, (Op.stringOp .add ⟨#[120, 109, 108, 58]⟩ y2).run Tryz.prog W = .ok (.string nm) W := fun W => by rw [run_string_add_sum W ⟨#[120, 109, 108, 58]⟩ y2 (by show 4 + y2.size ≤ _; omega), hnm]
              have HBA : Hid (bareA (S.map (·.data.toList)) a = abVal ⟨⟨#[]⟩, nm, z2⟩) := Lib.hid (by unfold bareA abVal; rw [if_neg (by rw [hxm]; decide), if_pos hxm, ← hnm, ← HYA.out, ← HZA.out, ByteArray.data_append, Array.toList_append]; rfl)
              obtain ⟨w7, hw7⟩ : ∃ W', w6.setCell ⟨wq.heap.size, 1, none⟩ (.string nm) = W' := ⟨_, rfl⟩
              have HG7 : Hid (w7.heap[wq.heap.size]? = some (.cells #[.string ⟨#[]⟩, .string nm, .string z2] 41 (0, 0))) := Lib.hid (by rw [← hw7]; exact set_at HG6.out 1 (.string nm))
              have HB7 : Hid (Below wq.heap.size wq w7) := Lib.hid (by rw [← hw7]; exact HB6.out.setCell (Nat.le_refl _) _)
              have r73 := cellV w7 _ 3 _ _ _ (HST.out.on HB7.out).box
              clear hnm ys
              go_wp2_with (first
                | (refine wpList_load_row rfl _ _ rfl wq.heap.size rfl 41 #[.string ⟨#[]⟩, .string nm, .string z2] (0, 0) _ HG7.out Tryz.underlying41 rfl sizeAt3 ?_)
                | (at_builtin; refine wpList_append_own_at _ rfl (.tmp 104) (.tmp 106) 37 rfl (w.heap.size + 1 + 1 + 1) 41 j0 (.agg #[.string ⟨#[]⟩, .string ⟨#[]⟩, .string ⟨#[]⟩]) 3 48 Tryz.underlying37 HI.out HZ0.out HZ1.out HZ2.out rfl (by decide) _ L.length _ rfl (own_belowK (HST.out.on HB7.out).own (stpA (Below.refl _ _) _) (Nat.le_refl _)) ⟨w7.heap.size, 0, none⟩ 1 1 [.string ⟨#[]⟩, .string nm, .string z2] rfl rfl (new_at w7 [.string ⟨#[]⟩, .string nm, .string z2] 41 w7.heap.size rfl) (by simp [Value.oneCell']) (by have := HLK.out; have := HM6.out; unfold maxLen; omega) (by have := HLK.out; have := HM6.out; omega) (by rw [World.size_alloc]; have := (HST.out.on HB7.out).lt; omega) ?_; intro v9 w9 hown9 hgr9 _ hlie9; obtain ⟨A9, c9, rfl⟩ := own_form2 hown9; have HP9 := Lib.hid (HST.out.push ⟨⟨#[]⟩, nm, z2⟩ (stpA HB7.out _) hgr9 hlie9 hown9); have hx9 := HST.out.box9 (stpA HB7.out _) hgr9; have p93 := cellV w9 _ 3 _ _ _ hx9; have f93 := freeV w9 _ 3 _ _ hx9; clear hown9 hgr9 hx9 hlie9)
                | fail)
              go_roundg (gk - 1)
              case measure => omega
              case rel =>
                refine ⟨k + 1, L ++ [⟨⟨#[]⟩, nm, z2⟩], A9, c9, by omega, by go_num, HP9.out, ?_, by rw [List.length_append]; have := HLK.out; show L.length + 1 ≤ _; omega⟩
                rw [List.map_append, HL.out, HTK.out, List.map_append, List.append_assoc, List.append_assoc]
                congr 3
                show [abVal _] = [bareA _ _]
                rw [HBA.out]
            · have q1 : (x2.toList == [104, 116, 116, 112, 58, 47, 47, 119, 119, 119, 46, 119, 51, 46, 111, 114, 103, 47, 88, 77, 76, 47, 49, 57, 57, 56, 47, 110, 97, 109, 101, 115, 112, 97, 99, 101]) = false := by rw [ByteArray.toList_eq, HXA.out]; exact beq_eq_false_iff_ne.2 hxm
              by_cases hxe : a.space = []
              · have q2 : x2.toList.isEmpty = true := by rw [ByteArray.toList_eq, HXA.out, hxe]; rfl
                have HBA : Hid (bareA (S.map (·.data.toList)) a = abVal ⟨⟨#[]⟩, y2, z2⟩) := Lib.hid (by unfold bareA abVal; rw [if_pos hxe, ← HYA.out, ← HZA.out])
                go_wp2_with (first
                  | (refine wpList_load_row rfl _ _ rfl wq.heap.size rfl 41 #[.string ⟨#[]⟩, .string y2, .string z2] (0, 0) _ HG6.out Tryz.underlying41 rfl sizeAt3 ?_)
                  | (at_builtin; refine wpList_append_own_at _ rfl (.tmp 104) (.tmp 106) 37 rfl (w.heap.size + 1 + 1 + 1) 41 j0 (.agg #[.string ⟨#[]⟩, .string ⟨#[]⟩, .string ⟨#[]⟩]) 3 48 Tryz.underlying37 HI.out HZ0.out HZ1.out HZ2.out rfl (by decide) _ L.length _ rfl (own_belowK (HST.out.on HB6.out).own (stpA (Below.refl _ _) _) (Nat.le_refl _)) ⟨w6.heap.size, 0, none⟩ 1 1 [.string ⟨#[]⟩, .string y2, .string z2] rfl rfl (new_at w6 [.string ⟨#[]⟩, .string y2, .string z2] 41 w6.heap.size rfl) (by simp [Value.oneCell']) (by have := HLK.out; have := HM6.out; unfold maxLen; omega) (by have := HLK.out; have := HM6.out; omega) (by rw [World.size_alloc]; have := (HST.out.on HB6.out).lt; omega) ?_; intro v9 w9 hown9 hgr9 _ hlie9; obtain ⟨A9, c9, rfl⟩ := own_form2 hown9; have HP9 := Lib.hid (HST.out.push ⟨⟨#[]⟩, y2, z2⟩ (stpA HB6.out _) hgr9 hlie9 hown9); have hx9 := HST.out.box9 (stpA HB6.out _) hgr9; have p93 := cellV w9 _ 3 _ _ _ hx9; have f93 := freeV w9 _ 3 _ _ hx9; clear hown9 hgr9 hx9 hlie9)
                  | fail)
                go_roundg (gk - 1)
                case measure => omega
                case rel =>
                  refine ⟨k + 1, L ++ [⟨⟨#[]⟩, y2, z2⟩], A9, c9, by omega, by go_num, HP9.out, ?_, by rw [List.length_append]; have := HLK.out; show L.length + 1 ≤ _; omega⟩
                  rw [List.map_append, HL.out, HTK.out, List.map_append, List.append_assoc, List.append_assoc]
                  congr 3
                  show [abVal _] = [bareA _ _]
                  rw [HBA.out]
              · have q2 : x2.toList.isEmpty = false := by rw [ByteArray.toList_eq, HXA.out]; cases h : a.space with | nil => exact absurd h hxe | cons _ _ => rfl
                have ys : y2.size ≤ 1000000 := by rw [← ba_len5, HYA.out]; exact (HSM.out.each _ HAM.out).2.1
                have hmem : a.space ∈ S.map (·.data.toList) := by rw [HS4.out]; exact (spacesL_mem n.attrs []).2.1 a HAM.out hxe hxm
                obtain ⟨jn, hjn⟩ : ∃ jn, (S.map (·.data.toList)).idxOf a.space + 1 = jn := ⟨_, rfl⟩
                have hwn : whichN (S.map (·.data.toList)) x2.data.toList = jn := by unfold whichN; rw [HXA.out, if_pos hmem, hjn]
                have hjs : jn ≤ 1000000 := by have h1 := List.idxOf_lt_length_of_mem hmem; rw [List.length_map] at h1; have := HSL.out; omega
                obtain ⟨td, htd, htl⟩ := dig_str jn
                have htz : td.size ≤ 1000010 := by rw [← ba_len5, htl]; have := dg_bound jn; omega
                obtain ⟨u1, hu1⟩ : ∃ v, (⟨#[110]⟩ : ByteArray) ++ td = v := ⟨_, rfl⟩
                obtain ⟨u2, hu2⟩ : ∃ v, u1 ++ (⟨#[58]⟩ : ByteArray) = v := ⟨_, rfl⟩
                obtain ⟨nm, hnm⟩ : ∃ v, u2 ++ y2 = v := ⟨_, rfl⟩
                have z1 : u1.size = 1 + td.size := by rw [← hu1, ByteArray.size_append]; rfl
                have z2' : u2.size = u1.size + 1 := by rw [← hu2, ByteArray.size_append]; rfl
                have t1 : ∀ W, (Op.stringOp .add ⟨#[110]⟩ td).run Tryz.prog W = .ok (.string u1) W := fun W => by rw [run_string_add_sum W ⟨#[110]⟩ td (by show 1 + td.size ≤ _; omega), hu1]
                have t2 : ∀ W, (Op.stringOp .add u1 ⟨#[58]⟩).run Tryz.prog W = .ok (.string u2) W := fun W => by rw [run_string_add_sum W u1 ⟨#[58]⟩ (by show u1.size + 1 ≤ _; omega), hu2]
                have t3 : ∀ W, (Op.stringOp .add u2 y2).run Tryz.prog W = .ok (.string nm) W := fun W => by rw [run_string_add_sum W u2 y2 (by omega), hnm]
                have HBA : Hid (bareA (S.map (·.data.toList)) a = abVal ⟨⟨#[]⟩, nm, z2⟩) := Lib.hid (by unfold bareA abVal prefN; rw [if_neg hxe, if_neg hxm, ← hnm, ← hu2, ← hu1, hjn, ← HYA.out, ← HZA.out, ByteArray.data_append, ByteArray.data_append, ByteArray.data_append, Array.toList_append, Array.toList_append, Array.toList_append, htl]; simp)
                have HWH : Hid (∀ W, Below wq.heap.size wq W → Calls Tryz.prog 88 #[.slice A4 S.length c4, .string x2] W fun e w' => e = .returned (.int .i64 jn) ∧ w' = W) := Lib.hid fun W h => by have := rwhich11 A4 S.length c4 wc.heap.size S x2 W (HST.out.on h).str rfl HSL.out; rw [hwn] at this; exact this
                have HDG : Hid (∀ W, Calls Tryz.prog 87 #[.int .i64 jn] W fun e w' => e = .returned (.string td) ∧ Below W.heap.size W w') := Lib.hid fun W => rdigits6 jn W (by omega) td htd
                have HX6 : Hid (∀ W, Below w6.heap.size w6 W → W.cell? ⟨w.heap.size, 3, none⟩ = some (.slice (some ⟨b3, of3, none⟩) m c1) ∧ W.cell? ⟨b3, of3 + k * 3, none⟩ = some (.string x2) ∧ W.cell? ⟨wq.heap.size, 1, none⟩ = some (.string y2)) := Lib.hid fun W h => ⟨cellV W _ 3 _ _ _ (HNB4.out W (stp HB6.out h)), HA3.out W (stp HB6.out h), cellV W _ 1 _ _ _ (kept_heap HG6.out h)⟩
                clear hmem hjn hwn hjs htd htl htz hu1 hu2 hnm z1 z2' ys
                go_wp2_with fail
                refine wp_region_noPanic ?_
                refine wp_region_Z (fun W => W.cell? ⟨w.heap.size, 3, none⟩ = some (.slice (some ⟨b3, of3, none⟩) m c1) ∧ W.cell? ⟨b3, of3 + k * 3, none⟩ = some (.string x2) ∧ W.cell? ⟨wq.heap.size, 1, none⟩ = some (.string y2)) 15 (by kernel_rfl) ?_
                have hS := HX6.out w6.drew (Below.refl _ _).drew
                refine takeZ (i := 0) (v := .slice A4 S.length c4) rfl (by kernel_rfl) (by kernel_rfl) (by kernel_rfl) (by kernel_rfl) (fun _ _ _ h => h) (Or.inl ⟨by rfl, ?_⟩) hS ?_
                · intro w' hSw; (try dsimp only at hSw); obtain ⟨s0, s1, s2⟩ := hSw; go_simp
                try simp only [Act.put, List.setIfInBounds_toArray, List.set_cons_zero, List.set_cons_succ]
                refine takeZ (i := 1) (v := .pointer (some ⟨w.heap.size, 3, none⟩)) rfl (by kernel_rfl) (by kernel_rfl) (by kernel_rfl) (by kernel_rfl) (fun _ _ _ h => h) (Or.inl ⟨by rfl, ?_⟩) hS ?_
                · intro w' hSw; (try dsimp only at hSw); obtain ⟨s0, s1, s2⟩ := hSw; go_simp
                try simp only [Act.put, List.setIfInBounds_toArray, List.set_cons_zero, List.set_cons_succ]
                refine takeZ (i := 2) (v := .slice (some ⟨b3, of3, none⟩) m c1) rfl (by kernel_rfl) (by kernel_rfl) (by kernel_rfl) (by kernel_rfl) (fun _ _ _ h => h) (Or.inl ⟨by rfl, ?_⟩) hS ?_
                · intro w' hSw; (try dsimp only at hSw); obtain ⟨s0, s1, s2⟩ := hSw; go_simp
                try simp only [Act.put, List.setIfInBounds_toArray, List.set_cons_zero, List.set_cons_succ]
                refine takeZ (i := 3) (v := .int .i64 k) rfl (by kernel_rfl) (by kernel_rfl) (by kernel_rfl) (by kernel_rfl) (fun _ _ _ h => h) (Or.inl ⟨by rfl, ?_⟩) hS ?_
                · intro w' hSw; (try dsimp only at hSw); obtain ⟨s0, s1, s2⟩ := hSw; go_simp
                try simp only [Act.put, List.setIfInBounds_toArray, List.set_cons_zero, List.set_cons_succ]
                refine takeZ (i := 4) (v := .pointer (some ⟨b3, of3 + k * 3, none⟩)) rfl (by kernel_rfl) (by kernel_rfl) (by kernel_rfl) (by kernel_rfl) (fun _ _ _ h => h) (Or.inl ⟨by rfl, ?_⟩) hS ?_
                · intro w' hSw; (try dsimp only at hSw); obtain ⟨s0, s1, s2⟩ := hSw; go_simp
                try simp only [Act.put, List.setIfInBounds_toArray, List.set_cons_zero, List.set_cons_succ]
                refine takeZ (i := 5) (v := .pointer (some ⟨b3, of3 + k * 3, none⟩)) rfl (by kernel_rfl) (by kernel_rfl) (by kernel_rfl) (by kernel_rfl) (fun _ _ _ h => h) (Or.inl ⟨by rfl, ?_⟩) hS ?_
                · intro w' hSw; (try dsimp only at hSw); obtain ⟨s0, s1, s2⟩ := hSw; go_simp
                try simp only [Act.put, List.setIfInBounds_toArray, List.set_cons_zero, List.set_cons_succ]
                refine takeZ (i := 6) (v := .string x2) rfl (by kernel_rfl) (by kernel_rfl) (by kernel_rfl) (by kernel_rfl) (fun _ _ _ h => h) (Or.inl ⟨by rfl, ?_⟩) hS ?_
                · intro w' hSw; (try dsimp only at hSw); obtain ⟨s0, s1, s2⟩ := hSw; go_simp
                try simp only [Act.put, List.setIfInBounds_toArray, List.set_cons_zero, List.set_cons_succ]
                refine takeZ (i := 11) (v := .pointer (some ⟨wq.heap.size, 1, none⟩)) rfl (by kernel_rfl) (by kernel_rfl) (by kernel_rfl) (by kernel_rfl) (fun _ _ _ h => h) (Or.inl ⟨by rfl, ?_⟩) hS ?_
                · intro w' hSw; (try dsimp only at hSw); obtain ⟨s0, s1, s2⟩ := hSw; go_simp
                try simp only [Act.put, List.setIfInBounds_toArray, List.set_cons_zero, List.set_cons_succ]
                refine takeZ (i := 12) (v := .string y2) rfl (by kernel_rfl) (by kernel_rfl) (by kernel_rfl) (by kernel_rfl) (fun _ _ _ h => h) (Or.inl ⟨by rfl, ?_⟩) hS ?_
                · intro w' hSw; (try dsimp only at hSw); obtain ⟨s0, s1, s2⟩ := hSw; go_simp
                try simp only [Act.put, List.setIfInBounds_toArray, List.set_cons_zero, List.set_cons_succ]
                refine stepZ (i := 7) (by kernel_rfl) rfl (fun K hK => ?_)
                go_simp
                go_at_call 88; (with_reducible refine (HWH.out _ HB6.out.drew).mono ?_); rintro e7 w7 ⟨rfl, rfl⟩
                go_wp2_with fail
                refine hK.out _ _ (fun _ => hS) (fun _ => ?_)
                clear hK K
                try simp only [Act.put, List.setIfInBounds_toArray, List.set_cons_zero, List.set_cons_succ]
                refine stepZ (i := 8) (by kernel_rfl) rfl (fun K hK => ?_)
                go_simp
                go_at_call 87; (with_reducible refine (HDG.out _).mono ?_); rintro e8 w8 ⟨rfl, hb8⟩
                have HC8 : Hid (Below w6.heap.size w6 w8) := Lib.hid ((Below.refl w6.heap.size w6).drew.trans hb8)
                clear hb8
                go_wp2_with fail
                have hS := HX6.out w8 HC8.out
                refine hK.out _ _ (fun _ => hS) (fun _ => ?_)
                clear hK K
                try simp only [Act.put, List.setIfInBounds_toArray, List.set_cons_zero, List.set_cons_succ]
                refine takeZ (i := 9) (v := .string u1) rfl (by kernel_rfl) (by kernel_rfl) (by kernel_rfl) (by kernel_rfl) (fun _ _ _ h => h) (Or.inl ⟨by rfl, ?_⟩) hS ?_
                · intro w' hSw; (try dsimp only at hSw); obtain ⟨s0, s1, s2⟩ := hSw; go_simp
                try simp only [Act.put, List.setIfInBounds_toArray, List.set_cons_zero, List.set_cons_succ]
                refine takeZ (i := 10) (v := .string u2) rfl (by kernel_rfl) (by kernel_rfl) (by kernel_rfl) (by kernel_rfl) (fun _ _ _ h => h) (Or.inl ⟨by rfl, ?_⟩) hS ?_
                · intro w' hSw; (try dsimp only at hSw); obtain ⟨s0, s1, s2⟩ := hSw; go_simp
                try simp only [Act.put, List.setIfInBounds_toArray, List.set_cons_zero, List.set_cons_succ]
                refine takeZ (i := 13) (v := .string nm) rfl (by kernel_rfl) (by kernel_rfl) (by kernel_rfl) (by kernel_rfl) (fun _ _ _ h => h) (Or.inl ⟨by rfl, ?_⟩) hS ?_
                · intro w' hSw; (try dsimp only at hSw); obtain ⟨s0, s1, s2⟩ := hSw; go_simp
                try simp only [Act.put, List.setIfInBounds_toArray, List.set_cons_zero, List.set_cons_succ]
                have g8 := freeV w8 _ 1 _ _ (kept_heap HG6.out HC8.out)
                refine stepZ (i := 14) (by kernel_rfl) rfl (fun K hK => ?_)
                go_simp
                refine hK.out _ _ (fun _ => hS) (fun _ => ?_)
                clear hK K
                try simp only [Act.put, List.setIfInBounds_toArray, List.set_cons_zero, List.set_cons_succ]
                have k8 := hS.2.2
                refine stepZ (i := 15) (by kernel_rfl) rfl (fun K hK => ?_)
                go_simp
                refine hK.out _ _ (fun h => absurd rfl h) (fun _ => ?_)
                clear hK K
                try simp only [Act.put, List.setIfInBounds_toArray, List.set_cons_zero, List.set_cons_succ]
                refine doneZ (by kernel_rfl) ?_ _
                refine NoPanic.normal ?_
                obtain ⟨w9x, hw9⟩ : ∃ W', w8.setCell ⟨wq.heap.size, 1, none⟩ (.string nm) = W' := ⟨_, rfl⟩
                have HG7 : Hid (w9x.heap[wq.heap.size]? = some (.cells #[.string ⟨#[]⟩, .string nm, .string z2] 41 (0, 0))) := Lib.hid (by rw [← hw9]; exact set_at (kept_heap HG6.out HC8.out) 1 (.string nm))
                have HB7 : Hid (Below wq.heap.size wq w9x) := Lib.hid (by rw [← hw9]; exact (stp HB6.out HC8.out).setCell (Nat.le_refl _) _)
                rw [hw9]
                have r73 := cellV w9x _ 3 _ _ _ (HST.out.on HB7.out).box
                clear hw9 hS k8 g8
                go_wp2_with (first
                  | (refine wpList_load_row rfl _ _ rfl wq.heap.size rfl 41 #[.string ⟨#[]⟩, .string nm, .string z2] (0, 0) _ HG7.out Tryz.underlying41 rfl sizeAt3 ?_)
                  | (at_builtin; refine wpList_append_own_at _ rfl (.tmp 104) (.tmp 106) 37 rfl (w.heap.size + 1 + 1 + 1) 41 j0 (.agg #[.string ⟨#[]⟩, .string ⟨#[]⟩, .string ⟨#[]⟩]) 3 48 Tryz.underlying37 HI.out HZ0.out HZ1.out HZ2.out rfl (by decide) _ L.length _ rfl (own_belowK (HST.out.on HB7.out).own (stpA (Below.refl _ _) _) (Nat.le_refl _)) ⟨w9x.heap.size, 0, none⟩ 1 1 [.string ⟨#[]⟩, .string nm, .string z2] rfl rfl (new_at w9x [.string ⟨#[]⟩, .string nm, .string z2] 41 w9x.heap.size rfl) (by simp [Value.oneCell']) (by have := HLK.out; have := HM6.out; unfold maxLen; omega) (by have := HLK.out; have := HM6.out; omega) (by rw [World.size_alloc]; have := (HST.out.on HB7.out).lt; omega) ?_; intro v9 w9 hown9 hgr9 _ hlie9; obtain ⟨A9, c9, rfl⟩ := own_form2 hown9; have HP9 := Lib.hid (HST.out.push ⟨⟨#[]⟩, nm, z2⟩ (stpA HB7.out _) hgr9 hlie9 hown9); have hx9 := HST.out.box9 (stpA HB7.out _) hgr9; have p93 := cellV w9 _ 3 _ _ _ hx9; have f93 := freeV w9 _ 3 _ _ hx9; clear hown9 hgr9 hx9 hlie9)
                  | fail)
                go_roundg (gk - 1)
                case measure => omega
                case rel =>
                  refine ⟨k + 1, L ++ [⟨⟨#[]⟩, nm, z2⟩], A9, c9, by omega, by go_num, HP9.out, ?_, by rw [List.length_append]; have := HLK.out; show L.length + 1 ≤ _; omega⟩
                  rw [List.map_append, HL.out, HTK.out, List.map_append, List.append_assoc, List.append_assoc]
                  congr 3
                  show [abVal _] = [bareA _ _]
                  rw [HBA.out]
          · obtain rfl : k = m := by omega
            have hkk : ¬ ((k : Int) < (k : Int)) := by omega
            have HZ6 : Hid (wq.heap[w.heap.size + 1]? = some (.cells zNd6 39 (0, 0))) := Lib.hid ((hst.below.block _ (by omega)).trans HZ3.out)
            have HBQ : Hid (Below w.heap.size w wq) := Lib.hid (HWB.out wq hst.below)
            have HBN : Hid (bareN outer.data.toList n = ⟨1, [], y.data.toList, L.map abVal, [], n.many⟩) := Lib.hid (by
              unfold bareN bareL
              rw [HL.out, HIN.out.name, ← HS4.out, List.take_of_length_le (by rw [HM.out]; exact Nat.le_refl _)])
            clear hst hL hlb
            go_wp2_with (first
              | (refine wpList_load_row rfl _ _ rfl (w.heap.size + 1 + 1) rfl 39 #[.int .u8 1, .string ⟨#[]⟩, .string y, .slice A5 L.length c5, .string ⟨#[]⟩, .int .i64 mm] (0, 0) _ HST.out.box Tryz.underlying39 rfl sizeNd ?_)
              | (refine wpList_store_row rfl _ _ _ rfl (w.heap.size + 1) #[.int .u8 1, .string ⟨#[]⟩, .string y, .slice A5 L.length c5, .string ⟨#[]⟩, .int .i64 mm] rfl rfl 39 zNd6 HZ6.out sizeNd rfl (oneNd6 _ _ _ _ _ _ _ _) ?_)
              | fail)
            exact bodyPost_ret (v := .agg #[.int .u8 1, .string ⟨#[]⟩, .string y, .slice A5 L.length c5, .string ⟨#[]⟩, .int .i64 mm]) (rcell1s (p := 4) rfl _ _ _ _ #[.int .u8 1, .string ⟨#[]⟩, .string y, .slice A5 L.length c5, .string ⟨#[]⟩, .int .i64 mm] _ _ rfl (setRow_heap _ _ _ #[.int .u8 1, .string ⟨#[]⟩, .string y, .slice A5 L.length c5, .string ⟨#[]⟩, .int .i64 mm] _ _ HZ6.out) Tryz.underlying39 rfl sizeNd) rfl ⟨y, A5, c5, L, w.heap.size + 1 + 1 + 1, by rw [HMM.out], HBN.out, by omega, own_setRow HST.out.own _ (by omega) _, below_setRowV HBQ.out (by omega) _⟩

end Hx
end Go.Proofs.YteobcohjikjalaaGreatDoor
