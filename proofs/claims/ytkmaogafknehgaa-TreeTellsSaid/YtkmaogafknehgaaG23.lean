/-
  Texts of one seat, put together: TrhS, TrhT, TrhU, TreS, TrhV.
-/
import Derived.Test.YtkmaogafknehgaaG22
import Derived.Test.YtkmaogafknehgaaG18
import Derived.Test.YtkmaogafknehgaaG06
namespace Go.Proofs.Ytkmaogafknehgaa
open Go.RowKit
namespace Hx
open Lx Tr Tx Nmb Es
set_option linter.unusedVariables false
/-- What else stands, stands on. -/
structure FrT (V : Value) (w : World) (V' : Value) (w' : World) : Prop where
  sz : w.heap.size ≤ w'.heap.size
  blk : ∀ k, k < w.heap.size → some k ≠ V.ownBlock → w'.heap[k]? = w.heap[k]?
  lie : ∀ k, k < w.heap.size → V'.ownBlock = some k → V.ownBlock = some k
theorem FrT.refl (V : Value) (w : World) : FrT V w V w := ⟨Nat.le_refl _, fun _ _ _ => rfl, fun _ _ h => h⟩
theorem FrT.trans {V V1 V2 : Value} {w w1 w2 : World} (h : FrT V w V1 w1) (k : FrT V1 w1 V2 w2) : FrT V w V2 w2 :=
  ⟨Nat.le_trans h.sz k.sz, fun q h1 h2 => (k.blk q (Nat.lt_of_lt_of_le h1 h.sz) (fun e => h2 (h.lie q h1 e.symm).symm)).trans (h.blk q h1 h2), fun q h1 h2 => h.lie q h1 (k.lie q (Nat.lt_of_lt_of_le h1 h.sz) h2)⟩
theorem FrT.below {V : Value} {w w' : World} (h : Below w.heap.size w w') : FrT V w V w' := ⟨h.size, fun k hk _ => h.block k hk, fun _ _ e => e⟩
theorem FrT.grown {V V' : Value} {w w' : World} (h : w.grownBy w' V.ownBlock) (hl : V'.ownBlock = V.ownBlock ∨ V'.ownBlock = some w.heap.size) : FrT V w V' w' :=
  ⟨h.size, fun k hk hne => h.block k hk hne, fun k hk e => by
    rcases hl with e2 | e2
    · rw [← e2]; exact e
    · rw [e2] at e
      injection e with e
      omega⟩
/-- Where an own row of tokens lies. -/
theorem tks_at {w : World} {base : Nat} {L : List TB} {A : Option Addr} {c : Nat} (h : w.ownsRow base 60 4 (.slice A L.length c) L.length (L.flatMap tbCells)) (hp : 0 < L.length) :
    ∃ g, A = some ⟨g, 0, none⟩ ∧ ∀ j u, (L.flatMap tbCells)[j]? = some u → w.cell? ((⟨g, 0, none⟩ : Addr).add j) = some u := by
  rcases h.2 with ⟨e, h0⟩ | ⟨g, cap, cur, hv, _⟩
  · injection e with _ e _
    omega
  · injection hv with e1 e2 e3
    subst e1
    exact ⟨g, rfl, h.cells (g := g) rfl⟩
/-- Where an own row of numbers lies. -/
theorem ints_at {w W : World} {l : List Nat} {A : Option Addr} {c : Nat} (h : W.ownsRow w.heap.size 3 1 (.slice A l.length c) l.length ((zs l).map encZ)) (hp : 0 < l.length) :
    ∃ g, A = some ⟨g, 0, none⟩ ∧ w.heap.size ≤ g ∧ g < W.heap.size ∧ ∀ j (hj : j < l.length), W.cell? ⟨g, j, none⟩ = some (.int .i64 ((l[j]'hj : Nat) : Int)) := by
  have h9 := h
  rcases h.2 with ⟨e, h0⟩ | ⟨g, cap, cur, hv, _⟩
  · injection e with _ e _
    omega
  · injection hv with e1 e2 e3
    subst e1
    have hlt := h9.lt g rfl
    refine ⟨g, rfl, hlt.1, hlt.2, fun j hj => ?_⟩
    have := h9.cells (g := g) rfl j (.int .i64 ((l[j]'hj : Nat) : Int)) (by
      rw [List.getElem?_map, zs, List.getElem?_map, List.getElem?_eq_getElem hj]
      rfl)
    rw [addr_plain, Nat.zero_add] at this
    exact this
/-- Told, of what is no deeper. -/
def RTells (A : Option Addr) (n c : Nat) (v : List Nd) (d : Nat) : Prop := ∀ (p : Nat) (r : List Nd) (w : World), p < v.length → restD d (v.drop p) = some r → RdB NdS w A v →
  Calls Try.prog 28 #[.slice A n c, .int .i64 p] w (RToldTo (toldD d (v.drop p)).1 w)
theorem toldD_some {d : Nat} {n : Nd} {l : List Nd} : 0 < (toldD d (n :: l)).1.length := by
  cases d with
  | zero => rw [toldD]; simp
  | succ d =>
    rw [toldD]
    split
    · simp
    · split <;> simp
/-- What a call of it gives to append. -/
theorem RToldTo.out {T : List Tk} {w w' : World} {e : Ending} (h : RToldTo T w e w') (hT : 0 < T.length) : ∃ (M : List TB) (g c : Nat), e = .returned (.slice (some ⟨g, 0, none⟩) M.length c) ∧ M.map TB.t = T ∧ (∀ j u, (M.flatMap tbCells)[j]? = some u → w'.cell? ((⟨g, 0, none⟩ : Addr).add j) = some u) ∧
    (∀ b ∈ M, TkC.R w' w'.heap.size (tbCells b) b.t ∧ (0 < b.t.attrs.length → ∀ ad, b.A = some ad → w.heap.size ≤ ad.block)) ∧ Below w.heap.size w w' := by
  obtain ⟨L, A, c, h1, h2, h3⟩ := h
  obtain ⟨g, rfl, h4⟩ := tks_at h3.own (by rw [← h2, List.length_map] at hT; exact hT)
  exact ⟨L, g, c, h1, h2, h4, fun b hb => ⟨(h3.tk b hb).1, fun hp ad e => ((h3.tk b hb).2 hp ad e).2⟩, h3.bel⟩
theorem flat4 (L : List TB) : (L.flatMap tbCells).length = L.length * 4 := flat_len tbCells 4 (fun _ => rfl) L
theorem tbs_one : ∀ (L : List TB) (u : Value), u ∈ L.flatMap tbCells → u.oneCell' = true := by
  intro L u hu
  obtain ⟨b, _, h⟩ := List.mem_flatMap.1 hu
  exact tb_one _ _ _ _ _ _ u h
end Hx
end Go.Proofs.Ytkmaogafknehgaa
namespace Go.Proofs.Ytkmaogafknehgaa
open Go.RowKit
namespace Hx
open Lx Tr Tx Nmb Es
set_option linter.unusedVariables false
theorem cnt_two (l : List Nd) : cnt l ≤ 2 * l.length := by
  unfold cnt
  have := List.countP_le_length (p := fun n : Nd => decide (0 < n.many)) (l := l)
  omega
/-- What Under answers, as it is read. -/
def UnderTo (ul : List Nat) (m : Nat) (W : World) (e : Ending) (w' : World) : Prop := ∃ g c', e = .returned (.slice (some ⟨g, 0, none⟩) m c') ∧ W.heap.size ≤ g ∧ g < w'.heap.size ∧ (∀ (j q : Nat), ul[j]? = some q → w'.cell? ⟨g, j, none⟩ = some (.int .i64 (q : Int))) ∧ Below W.heap.size W w'
theorem UnderTo.of {ul : List Nat} {m : Nat} {W w' : World} {e : Ending} (h : IntsTo ul W e w') (hm : ul.length = m) (h0 : 0 < m) : UnderTo ul m W e w' := by
  obtain ⟨hb, A, c, rfl, _, _, ho⟩ := h
  obtain ⟨g, rfl, h1, h2, h3⟩ := ints_at ho (by omega)
  refine ⟨g, c, by rw [hm], h1, h2, fun j q hq => ?_, hb⟩
  obtain ⟨hj, e⟩ := List.getElem?_eq_some_iff.1 hq
  rw [h3 j hj, e]
set_option maxHeartbeats 16000000 in
set_option maxRecDepth 100000 in
theorem rtold_open (A : Option Addr) (n c : Nat) (v : List Nd) (hn : v.length = n) (hl : n ≤ 512) (hsm : ∀ n ∈ v, SmallN n) (d p : Nat) (r : List Nd) (w : World) (hp : p < v.length) (hr : restD (d + 1) (v.drop p) = some r) (hrd : RdB NdS w A v) (hd : d < 12) (HKIND : (v[p]'hp).kind = 1) (HM0 : 0 < (v[p]'hp).many) (ih : RTells A n c v d) :
    Calls Try.prog 28 #[.slice A n c, .int .i64 p] w (RToldTo (toldD (d + 1) (v.drop p)).1 w) := by
  have hr12 := restD_le (show d + 1 ≤ 12 by omega) hr
  obtain ⟨i0, hi, hz0, hz1, hz2⟩ := info_parts infoTk
  have HI := Lib.hid hi
  have HZ0 := Lib.hid hz0
  have HZ1 := Lib.hid hz1
  have HZ2 := Lib.hid hz2
  have hun : ∀ W, Below w.heap.size w W → Calls Try.prog 32 #[.slice A n c, .int .i64 p] W (IntsTo (under v p) W) := fun W hW => runder10 A n c v p r W (hrd.on hW) hn (by omega) hsm (by omega) hr12
  obtain ⟨b0, off, x, y, t, A1, c1, hA, hbB, hin, q0, q1, q2, q3, q4, q5⟩ := nd_at hrd hp
  have hs := hsm _ (List.getElem_mem hp)
  have hdr := List.drop_eq_getElem_cons hp
  rw [hdr] at hr
  obtain ⟨nd, hnd⟩ : ∃ nd, v[p]'hp = nd := ⟨_, rfl⟩
  rw [hnd] at hs hin hr hdr q0 q3 q5 HKIND HM0
  have htd := toldD_open (d := d) (l := v.drop (p + 1)) HKIND (by omega : nd.many ≠ 0)
  obtain ⟨hok, _, bb, hk⟩ := restD_ok hr
  rw [Nat.add_sub_cancel] at hk
  rw [hdr, htd]
  rw [HKIND, show ((1 : Nat) : Int) = 1 from rfl] at q0
  obtain ⟨m, hmn⟩ : ∃ m : Nat, nd.many = (m : Int) := ⟨nd.many.toNat, by omega⟩
  rw [hmn, Int.toNat_natCast] at hk
  have hkl := kidsD_len hk
  rw [List.length_drop] at hkl
  have bp : (0 : Int) ≤ (p : Int) ∧ (p : Int) < (n : Int) := by omega
  have bn : (n : Int) ≤ 512 := by omega
  obtain ⟨n1, hn1⟩ : ∃ n1, nd.attrs.length = n1 := ⟨_, rfl⟩
  obtain ⟨mm, hmm⟩ : ∃ mm, nd.many = mm := ⟨_, rfl⟩
  have HN1 := Lib.hid hn1
  have HTX := Lib.hid hin.text
  have HNM := Lib.hid hin.name
  rw [hn1] at q3
  rw [hmm] at q5
  rw [hmn] at hmm
  subst hmm
  rw [hmn, Int.toNat_natCast]
  have bm : (0 : Int) < (m : Int) ∧ (m : Int) ≤ 512 := by omega
  have f1 : ¬ (m : Int) = 0 := by omega
  obtain ⟨ul, hul⟩ : ∃ ul, under v p = ul := ⟨_, rfl⟩
  have hua2 : ∀ (j : Nat) (b : Bool) (p' : Nat), j < m → kidsD (restD d) j false (v.drop (p + 1)) = some (b, v.drop p') → p' ≤ v.length → ul.length = m ∧ ul[j]? = some p' := fun j b p' hj hkd hp' => by
    rw [← hul]
    exact under_at (j := j) (m := m) (b := b) (b0 := bb) (r := r) (p' := p') hp (by rw [hnd, hmn, Int.toNat_natCast]) (kidsD_le (by omega) hk) hj (kidsD_le (by omega) hkd) hp'
  have hulen : ul.length = m := (hua2 0 false (p + 1) (by omega) (by rw [kidsD]) (by omega)).1
  have HUN : Hid (∀ W, Below w.heap.size w W → Calls Try.prog 32 #[.slice A n c, .int .i64 p] W (UnderTo ul m W)) := Lib.hid fun W hW => (by rw [← hul]; exact hun W hW : Calls Try.prog 32 #[.slice A n c, .int .i64 p] W (IntsTo ul W)).mono fun e w' h => UnderTo.of h hulen (by omega)
  have HUA : Hid (∀ (j : Nat) (b : Bool) (p' : Nat), j < m → kidsD (restD d) j false (v.drop (p + 1)) = some (b, v.drop p') → p' ≤ v.length → ul[j]? = some p') := Lib.hid fun j b p' h1 h2 h3 => (hua2 j b p' h1 h2 h3).2
  have hpr : ∀ W, Below w.heap.size w W → Calls Try.prog 48 #[.slice A1 n1 c1] W (PairsTo nd.attrs W) := fun W hW => rpairs10 A1 n1 c1 nd.attrs W (RdB.on (w := w) hin.attrs hW) hn1 (by have := hs.attrs; omega)
  unfold PairsTo at hpr
  rw [hn1] at hpr
  have HPR := Lib.hid hpr
  have HPL : Hid ((pairsN nd.attrs).length = n1) := Lib.hid (by unfold pairsN; rw [List.length_map, hn1])
  have HK := Lib.hid hk
  have HIH := Lib.hid ih
  have HPLT := Lib.hid hp
  have HLN := Lib.hid hn
  have HRD := Lib.hid hrd
  have HCN : Hid (cnt (v.drop (p + 1)) ≤ 1024) := Lib.hid (by have := cnt_two (v.drop (p + 1)); rw [List.length_drop] at this; omega)
  subst hA
  clear hun hua2 hulen hpr hs hnd hin htd hr hr12 hdr hl hsm hbB hn1 hn hrd hok hk hkl ih hi hz0 hz1 hz2 HM0 hul hmn
  clear hp
  go_enter Try.func28, Try.ntmps28
  go_wp2_with fail
  obtain ⟨W0, hW0⟩ : ∃ W0, w.alloc (.cells #[.int .u8 1, .string x, .string y, .slice A1 n1 c1, .string t, .int .i64 (m : Int)] 53) = W0 := ⟨_, rfl⟩
  have hx0 : W0.heap[w.heap.size]? = some (.cells #[.int .u8 1, .string x, .string y, .slice A1 n1 c1, .string t, .int .i64 (m : Int)] 53 (0, 0)) := by rw [← hW0]; exact heap_alloc_new w _
  have HX0 := Lib.hid hx0
  have HB0 : Hid (Below w.heap.size w W0) := Lib.hid (by rw [← hW0]; exact stpA (Below.refl _ _) _)
  have HS0 : Hid (w.heap.size < W0.heap.size) := Lib.hid (lt_heap hx0)
  rw [hW0]
  clear hx0 hW0
  have HKP : Hid (∀ W, Below W0.heap.size W0 W → W.cell? ⟨w.heap.size, 2, none⟩ = some (.string y) ∧ W.cell? ⟨w.heap.size, 3, none⟩ = some (.slice A1 n1 c1)) := Lib.hid fun W hW => ⟨cellV W _ 2 _ _ _ (kept_heap HX0.out hW), cellV W _ 3 _ _ _ (kept_heap HX0.out hW)⟩
  go_region_held3 (fun W => W.cell? ⟨w.heap.size, 2, none⟩ = some (.string y) ∧ W.cell? ⟨w.heap.size, 3, none⟩ = some (.slice A1 n1 c1))
    (first | exact HKP.out _ (Below.refl _ _).drew | exact HKP.out _ (stp (Below.refl _ _).drew hb5) | exact HKP.out _ (stpA (stp (Below.refl _ _).drew hb5) _))
    ((go_at_call 48; (with_reducible refine (HPR.out _ HB0.out.drew).mono ?_); rintro e5 w5 ⟨hb5, A5, c5, rfl, hown5⟩))
  have htk := pairs_tk (k := 1) (by decide) (y := y) (w0 := W0.drew) (l := nd.attrs) (by rw [HN1.out]; exact hown5)
  obtain ⟨W1, hW1⟩ : ∃ W1, w5.alloc (.cells #[.int .u8 1, .string y, .slice A5 n1 c5, .string ⟨#[]⟩] 60) = W1 := ⟨_, rfl⟩
  have HT1 : Hid (ToldSt w [⟨y, A5, c5, ⟨#[]⟩, ⟨1, y.data.toList, pairsN nd.attrs, []⟩⟩] (.slice (some ⟨w5.heap.size, 0, none⟩) 1 1) W1) := Lib.hid (ToldSt.one (stp HB0.out.drew hb5) htk.1 (fun h ad e => by have h1 := htk.2 h ad e; have h2 := HB0.out.size; have h3 : W0.heap.size ≤ ad.block := h1; omega) W1 (by rw [← hW1]; unfold tbCells; rw [HPL.out]; rfl))
  have HB1 : Hid (Below W0.heap.size W0 W1) := Lib.hid (by rw [← hW1]; exact stpA (stp (Below.refl _ _).drew hb5) _)
  have HX1 : Hid (W1.heap[w.heap.size]? = some (.cells #[.int .u8 1, .string x, .string y, .slice A1 n1 c1, .string t, .int .i64 (m : Int)] 53 (0, 0))) := Lib.hid (kept_heap HX0.out HB1.out)
  have HS5 : Hid (w.heap.size < w5.heap.size ∧ w5.heap.size < W1.heap.size) := Lib.hid ⟨by have := hb5.size; have h2 := HS0.out; have h3 : W0.heap.size ≤ w5.heap.size := this; omega, by rw [← hW1, World.size_alloc]; omega⟩
  rw [hW1]
  clear hW1 htk hown5 hb5
  go_wp2_with (first
    | (go_at_call 32; (with_reducible refine (HUN.out _ (stp HB0.out HB1.out)).mono ?_); rintro e6 w6 ⟨g6, c6, rfl, hg1, hg2, hci, hb6⟩; have HG6 := Lib.hid (And.intro hg1 hg2); have HCI := Lib.hid hci; have HB6 := Lib.hid hb6; clear hg1 hg2 hci hb6)
    | fail)
  go_loopg [6, 8] m (fun gg x6 i wr => ∃ (j : Nat) (b' : Bool) (p' : Nat) (M : List TB) (V' : Value), j + gg = m ∧ i = .int .i64 j ∧ x6 = V' ∧ kidsD (restD d) j false (v.drop (p + 1)) = some (b', v.drop p') ∧ p' ≤ n ∧ ToldSt w ([⟨y, A5, c5, ⟨#[]⟩, ⟨1, y.data.toList, pairsN nd.attrs, []⟩⟩] ++ M) V' wr ∧ M.map TB.t = (toldK (toldD d) j (v.drop (p + 1))).1 ∧ FrT (.slice (some ⟨w5.heap.size, 0, none⟩) 1 1) w6 V' wr)
  case atStart => exact ⟨0, false, p + 1, [], _, by omega, rfl, rfl, by rw [kidsD], by have := HPLT.out; have := HLN.out; omega, by rw [List.append_nil]; exact HT1.out.below HB6.out, by simp [toldK], FrT.refl _ _⟩
  case round =>
    obtain ⟨j, b', p', M, V', hjg, rfl, rfl, hkd, hpn, hst, hM, hfr⟩ := hrel
    have HS := Lib.hid hst
    have HFR := Lib.hid hfr
    have HMM2 := Lib.hid hM
    have hrest := toldK_rest (fun l r h => toldD_rest d l r h) j false _ b' _ hkd
    have hcnt := toldK_cnt (fun l r h => toldD_cnt d l r h) j false _ b' _ hkd
    have hMl : M.length = (toldK (toldD d) j (v.drop (p + 1))).1.length := by rw [← hM, List.length_map]
    obtain ⟨LL, hLL⟩ : ∃ LL, [⟨y, A5, c5, ⟨#[]⟩, ⟨1, y.data.toList, pairsN nd.attrs, []⟩⟩] ++ M = LL := ⟨_, rfl⟩
    have HLL := Lib.hid hLL
    have HLB : Hid (LL.length ≤ 2000) := Lib.hid (by rw [← hLL, List.length_append, List.length_singleton, hMl]; have := HCN.out; omega)
    rw [hLL] at HS hst
    have HG1 := HG6.out
    have HS51 := HS5.out
    by_cases hlt : j < m
    · have hlt2 : (j : Int) < (m : Int) := by omega
      obtain ⟨hp2, r2, h1, h2, h3⟩ := kids_more HK.out hkd hlt
      have hci := HCI.out j p' (HUA.out j b' p' hlt hkd (by have := HLN.out; omega))
      have u6 : wr.cell? ⟨g6, j, none⟩ = some (.int .i64 (p' : Int)) := (cell_blk (hfr.blk g6 HG1.2 (fun e => absurd (by simpa [Value.ownBlock] using e : g6 = w5.heap.size) (by omega)))).trans hci
      have HC : Hid (Calls Try.prog 28 #[.slice (some ⟨b0, off, none⟩) n c, .int .i64 p'] wr fun e w' => ∃ (M : List TB) (g c : Nat), e = .returned (.slice (some ⟨g, 0, none⟩) M.length c) ∧ M.map TB.t = (toldD d (v.drop p')).1 ∧ (∀ j u, (M.flatMap tbCells)[j]? = some u → w'.cell? ((⟨g, 0, none⟩ : Addr).add j) = some u) ∧
        (∀ b ∈ M, TkC.R w' w'.heap.size (tbCells b) b.t ∧ (0 < b.t.attrs.length → ∀ ad, b.A = some ad → wr.heap.size ≤ ad.block)) ∧ Below wr.heap.size wr w') := Lib.hid ((HIH.out p' r2 wr hp2 h1 (HRD.out.on hst.bel)).mono fun e w' h => h.out (by rw [List.drop_eq_getElem_cons hp2]; exact toldD_some))
      obtain ⟨p3, hp3⟩ : ∃ p3, v.length - r2.length = p3 := ⟨_, rfl⟩
      rw [hp3] at h2
      have H2 := Lib.hid h2
      have HP3 : Hid (p3 ≤ n) := Lib.hid (by have := HLN.out; omega)
      have HSN : Hid ((toldK (toldD d) (j + 1) (v.drop (p + 1))).1 = (toldK (toldD d) j (v.drop (p + 1))).1 ++ (toldD d (v.drop p')).1) := Lib.hid (by rw [toldK_snoc, hrest])
      have HTB : Hid ((toldD d (v.drop p')).1.length ≤ 1024) := Lib.hid (by have := toldD_cnt d _ _ h1; have := cnt_two (v.drop p'); rw [List.length_drop] at this; have := HLN.out; have := HCN.out; omega)
      clear hkd h1 h2 h3 hp3 hst hfr hM hrest hcnt hMl hci HG1 HS51 hLL
      go_wp2_with (first
        | (go_at_call 28; (with_reducible refine (HC.out).mono ?_); rintro e2 w2 ⟨M2, g2, c2, rfl, hM2, hn2, ht2, hb2⟩; have HM2 := Lib.hid hM2; have HN2 := Lib.hid hn2; have HT2 := Lib.hid ht2; have HB2 := Lib.hid hb2; have HMB : Hid (M2.length ≤ 1024) := Lib.hid (by have := HTB.out; rw [← hM2, List.length_map] at this; exact this); clear hM2 hn2 ht2 hb2)
        | (at_builtin; refine wpList_append_own_at _ rfl (.tmp 46) (.tmp 52) 25 rfl w.heap.size 60 i0 (.agg #[.int .u8 0, .string ⟨#[]⟩, .slice none 0 0, .string ⟨#[]⟩]) 4 64 Try.underlying25 HI.out HZ0.out HZ1.out HZ2.out rfl (by decide) _ LL.length _ rfl (HS.out.below HB2.out).own ⟨g2, 0, none⟩ M2.length c2 (M2.flatMap tbCells) rfl (flat4 M2) HN2.out (tbs_one M2) (by have := HLB.out; have := HMB.out; unfold maxLen; omega) (by have := HLB.out; have := HMB.out; omega) (by have := HS.out.bel.size; have := HB2.out.size; omega) ?_; intro v5 w9 hown9 hgr9 _ hlie9; have HT9 := Lib.hid (ToldSt.more HS.out HB2.out HT2.out hown9 hgr9 hlie9); have HF9 := Lib.hid ((HFR.out.trans (FrT.below HB2.out)).trans (FrT.grown hgr9 hlie9)); clear hown9 hgr9 hlie9)
        | fail)
      go_roundg (gk - 1)
      case measure => omega
      case rel => exact ⟨j + 1, _, p3, M ++ M2, _, by omega, by go_num, rfl, H2.out, HP3.out, by rw [← List.append_assoc, HLL.out]; exact HT9.out, by rw [List.map_append, HMM2.out, HM2.out, HSN.out], HF9.out⟩
    · obtain rfl : j = m := by omega
      have hjj : ¬ ((j : Int) < (j : Int)) := by omega
      have u2 : wr.cell? ⟨w.heap.size, 2, none⟩ = some (.string y) := cellV wr _ 2 _ _ _ ((hfr.blk w.heap.size (by have := HB6.out.size; omega) (fun e => absurd (by simpa [Value.ownBlock] using e : w.heap.size = w5.heap.size) (by omega))).trans (kept_heap HX1.out HB6.out))
      clear hkd hst hfr hM hrest hcnt hMl HG1 HS51 hLL
      go_wp2_with (first
        | (at_builtin; refine wpList_append_own_at _ rfl (.tmp 54) (.tmp 58) 25 rfl w.heap.size 60 i0 (.agg #[.int .u8 0, .string ⟨#[]⟩, .slice none 0 0, .string ⟨#[]⟩]) 4 64 Try.underlying25 HI.out HZ0.out HZ1.out HZ2.out rfl (by decide) _ LL.length _ rfl (HS.out.below (stpA (Below.refl _ _) _)).own ⟨wr.heap.size, 0, none⟩ 1 1 [.int .u8 2, .string y, .slice none 0 0, .string ⟨#[]⟩] rfl rfl (new_at wr [.int .u8 2, .string y, .slice none 0 0, .string ⟨#[]⟩] 60 _ rfl) (tb_one _ _ _ _ _ _) (by have := HLB.out; unfold maxLen; omega) (by have := HLB.out; omega) (by have := HS.out.bel.size; rw [World.size_alloc]; omega) ?_; intro v5 w9 hown9 hgr9 _ hlie9; have HT9 := Lib.hid (ToldSt.more (M := [⟨y, none, 0, ⟨#[]⟩, ⟨2, y.data.toList, [], (⟨#[]⟩ : ByteArray).data.toList⟩⟩]) HS.out (stpA (Below.refl _ _) _) (fun b hb => by obtain rfl := List.mem_singleton.1 hb; exact ⟨tk_plain _ 2 (by decide) y ⟨#[]⟩, fun h => absurd h (by simp)⟩) hown9 hgr9 hlie9); clear hown9 hgr9 hlie9)
        | fail)
      obtain ⟨A9, c9, rfl⟩ := own_form2 HT9.out.own
      go_ret
      refine ⟨LL ++ [⟨y, none, 0, ⟨#[]⟩, ⟨2, y.data.toList, [], (⟨#[]⟩ : ByteArray).data.toList⟩⟩], A9, c9, rfl, ?_, HT9.out⟩
      rw [← HLL.out, List.map_append, List.map_append, HMM2.out]
      show (_ :: _) ++ [_] = _ :: (_ ++ [_])
      rw [HNM.out]
      rfl
/-- Told, of whatever may be. -/
theorem rtold_all (A : Option Addr) (n c : Nat) (v : List Nd) (hn : v.length = n) (hl : n ≤ 512) (hsm : ∀ n ∈ v, SmallN n) : ∀ d, d ≤ 12 → RTells A n c v d := by
  intro d
  induction d with
  | zero =>
    intro _ p r w hp hr hrd
    have hk : (v[p]'hp).kind = 2 := by
      have h' := hr
      rw [List.drop_eq_getElem_cons hp, restD] at h'
      by_cases hn : ndOk (v[p]'hp) = true ∧ (v[p]'hp).kind = 2
      · exact hn.2
      · rw [if_neg hn] at h'; cases h'
    exact rtold_text A n c v hn hl hsm 0 p r w hp hr hrd hk
  | succ d ih =>
    intro hd p r w hp hr hrd
    have hok : ndOk (v[p]'hp) = true ∧ 0 ≤ (v[p]'hp).many := by
      have h' := hr
      rw [List.drop_eq_getElem_cons hp] at h'
      exact ⟨(restD_ok h').1, (restD_ok h').2.1⟩
    by_cases hk : (v[p]'hp).kind = 1
    · by_cases hm : (v[p]'hp).many = 0
      · exact rtold_bare A n c v hn hl hsm (d + 1) p r w hp hr hrd hk hm
      · exact rtold_open A n c v hn hl hsm d p r w hp hr hrd (by omega) hk (by omega) (ih (by omega))
    · exact rtold_text A n c v hn hl hsm (d + 1) p r w hp hr hrd ((ndOk_kind hok.1).resolve_left hk)
end Hx
end Go.Proofs.Ytkmaogafknehgaa
namespace Go.Proofs.Ytkmaogafknehgaa
open Go.RowKit
namespace Hx
open Lx Tr Tx Nmb Es
set_option linter.unusedVariables false
set_option maxHeartbeats 16000000 in
set_option maxRecDepth 100000 in
theorem rtokens10 (A : Option Addr) (n c : Nat) (v : List Nd) (w : World) (hr : RdB NdS w A v) (hn : v.length = n) (hmax : n ≤ 9223372036854775807) (hsm : n ≤ 512 → ∀ m ∈ v, SmallN m) :
    Calls Try.prog 7 #[.slice A n c] w (TokTo v w) := by
  cases hm : mayV v with
  | false =>
    have HC := Lib.hid (rmay10 A n c v w hr hn hmax hsm false hm)
    have HT := Lib.hid (tokensR_bad (v := v) (.inl hm))
    clear hr hn hmax hsm hm
    go_enter Try.func7, Try.ntmps7
    go_wp2_with (first
        | (go_at_call 26; (with_reducible refine (HC.out).mono ?_); rintro e1 w1 ⟨rfl, hb1⟩; have HB1 := Lib.hid hb1; clear hb1)
        | fail)
    go_ret2
    exact TokTo.bad HT.out HB1.out
  | true =>
    have h5 := (mayV_iff.1 hm).1
    have hrest := (mayV_iff.1 hm).2.2
    have hs := hsm (by omega)
    have HC := Lib.hid (rmay10 A n c v w hr hn hmax hsm true hm)
    have hraw : ∀ q, rawV v = q → ∀ W, Below w.heap.size w W → Calls Try.prog 27 #[.slice A n c] W fun e w' => e = .returned (.bool (!q)) ∧ Below W.heap.size W w' := fun q hq W hW => rspaced10 A n c v W (hr.on hW) hn (by omega) hs q hq
    cases hq : rawV v with
    | false =>
      have HR : Hid (∀ W, Below w.heap.size w W → Calls Try.prog 27 #[.slice A n c] W fun e w' => e = .returned (.bool true) ∧ Below W.heap.size W w') := Lib.hid (hraw false hq)
      have HT := Lib.hid (tokensR_bad (v := v) (.inr hq))
      clear hr hn hmax hsm hm h5 hrest hs hraw hq
      go_enter Try.func7, Try.ntmps7
      go_wp2_with (first
        | (go_at_call 26; (with_reducible refine (HC.out).mono ?_); rintro e1 w1 ⟨rfl, hb1⟩; have HB1 := Lib.hid hb1; clear hb1)
        | (go_at_call 27; (with_reducible refine (HR.out _ HB1.out).mono ?_); rintro e2 w2 ⟨rfl, hb2⟩; have HB2 := Lib.hid (stp HB1.out hb2); clear hb2)
        | fail)
      go_ret2
      exact TokTo.bad HT.out HB2.out
    | true =>
      have HR : Hid (∀ W, Below w.heap.size w W → Calls Try.prog 27 #[.slice A n c] W fun e w' => e = .returned (.bool false) ∧ Below W.heap.size W w') := Lib.hid (hraw true hq)
      obtain ⟨ts, hts⟩ : ∃ ts, (toldD 12 v).1 = ts := ⟨_, rfl⟩
      have hlen := toldD_cnt 12 v [] hrest
      have hTR : tokensR v = if 512 < ts.length then ([], 4) else (ts, 0) := by
        unfold tokensR
        rw [if_pos ⟨hm, hq⟩, hts]
      have hcv := cnt_two v
      have hp0 : 0 < v.length := by
        obtain ⟨_, ⟨m, l, rfl, _⟩, _⟩ := mayV_iff.1 hm
        simp
      have HTL : Hid (∀ W, Below w.heap.size w W → Calls Try.prog 28 #[.slice A n c, .int .i64 0] W fun e w' => ∃ (Ao : Option Addr) (co : Nat), e = .returned (.slice Ao ts.length co) ∧ RdC TkC w' w'.heap.size Ao ts ∧ ts.length ≤ co ∧ co ≤ maxLen ∧ (Ao = none → co = 0) ∧ Below W.heap.size W w') := Lib.hid fun W hW => by
        have h := rtold_all A n c v hn (by omega) hs 12 (Nat.le_refl _) 0 [] W hp0 (by rw [List.drop_zero]; exact hrest) (hr.on hW)
        rw [List.drop_zero, hts] at h
        refine h.mono ?_
        rintro e w' ⟨L, Ao, co, rfl, hL, hst⟩
        obtain ⟨r1, r2, r3, r4, r5⟩ := RdC.of_own (C := TkC) tbCells TB.t (fun _ => rfl) (by decide) L (fun b hm => (hst.tk b hm).1) hst.own
        have hLl : L.length = ts.length := by rw [← hL, List.length_map]
        rw [hL] at r1
        rw [hLl] at r3
        exact ⟨Ao, co, by rw [hLl], r1, r3, r4, r5, hst.bel⟩
      have btl : (ts.length : Int) ≤ 3000 := by
        have : cnt ([] : List Nd) = 0 := rfl
        rw [hts] at hlen
        omega
      by_cases hlong : 512 < ts.length
      · rw [if_pos hlong] at hTR
        have HT := Lib.hid hTR
        have f9 : decide ((512 : Int) < (ts.length : Int)) = true := decide_eq_true (by omega)
        clear hr hn hmax hsm hm h5 hrest hs hraw hq hlen hTR hcv hp0 hts
        go_enter Try.func7, Try.ntmps7
        go_wp2_with (first
        | (go_at_call 26; (with_reducible refine (HC.out).mono ?_); rintro e1 w1 ⟨rfl, hb1⟩; have HB1 := Lib.hid hb1; clear hb1)
        | (go_at_call 27; (with_reducible refine (HR.out _ HB1.out).mono ?_); rintro e2 w2 ⟨rfl, hb2⟩; have HB2 := Lib.hid (stp HB1.out hb2); clear hb2)
        | (go_at_call 28; (with_reducible refine (HTL.out _ HB2.out).mono ?_); rintro e3 w3 ⟨Ao, co, rfl, hrd, hle, hcm, hnl, hbw⟩; have HBW := Lib.hid (stp HB2.out hbw); have HRD := Lib.hid hrd; have HRE := Lib.hid (And.intro hle (And.intro hcm hnl)); clear hrd hbw hle hcm hnl)
        | fail)
        go_ret2
        exact TokTo.bad HT.out HBW.out
      · rw [if_neg hlong] at hTR
        have HT := Lib.hid hTR
        have f9 : decide ((512 : Int) < (ts.length : Int)) = false := decide_eq_false (by omega)
        clear hr hn hmax hsm hm h5 hrest hs hraw hq hlen hTR hcv hp0 hts
        go_enter Try.func7, Try.ntmps7
        go_wp2_with (first
        | (go_at_call 26; (with_reducible refine (HC.out).mono ?_); rintro e1 w1 ⟨rfl, hb1⟩; have HB1 := Lib.hid hb1; clear hb1)
        | (go_at_call 27; (with_reducible refine (HR.out _ HB1.out).mono ?_); rintro e2 w2 ⟨rfl, hb2⟩; have HB2 := Lib.hid (stp HB1.out hb2); clear hb2)
        | (go_at_call 28; (with_reducible refine (HTL.out _ HB2.out).mono ?_); rintro e3 w3 ⟨Ao, co, rfl, hrd, hle, hcm, hnl, hbw⟩; have HBW := Lib.hid (stp HB2.out hbw); have HRD := Lib.hid hrd; have HRE := Lib.hid (And.intro hle (And.intro hcm hnl)); clear hrd hbw hle hcm hnl)
        | fail)
        go_ret2
        exact ⟨ts, 0, Ao, co, HT.out, rfl, HRD.out, HRE.out.1, HRE.out.2.1, HRE.out.2.2, HBW.out⟩
end Hx
end Go.Proofs.Ytkmaogafknehgaa
namespace Go.Proofs.Ytkmaogafknehgaa
open Go.RowKit
namespace Hx
open Lx Tr Tx Nmb Es
set_option linter.unusedVariables false
/-- Nodes of one's own that may be written over. -/
def Sp (w0 : World) (A : Option Addr) (v : List Nd) (w : World) : Prop := Below w0.heap.size w0 w ∧
  (0 < v.length → ∃ b off, A = some ⟨b, off, none⟩ ∧ w0.heap.size ≤ b ∧ (∀ o, w.frozen? ⟨b, o, none⟩ = false) ∧ ∀ i (h : i < v.length), ∃ A1 c1, w.cell? ⟨b, off + i * 6 + 3, none⟩ = some (.slice A1 (v[i]'h).attrs.length c1) ∧ (∃ m, w.cell? ⟨b, off + i * 6 + 5, none⟩ = some (.int .i64 m)) ∧
    (0 < (v[i]'h).attrs.length → ∃ b1 of1, A1 = some ⟨b1, of1, none⟩ ∧ w0.heap.size ≤ b1 ∧ (∀ o, w.frozen? ⟨b1, o, none⟩ = false) ∧ ∀ k, k < (v[i]'h).attrs.length → ∃ s, w.cell? ⟨b1, of1 + k * 3 + 1, none⟩ = some (.string s)))
theorem Sp.of {w0 w : World} {A : Option Addr} {v : List Nd} {c : Nat} (h : NdOut w0.heap.size w0 v A c w) (hb : Below w0.heap.size w0 w) : Sp w0 A v w := by
  refine ⟨hb, fun hp => ?_⟩
  obtain ⟨b, off, e, hS, hc⟩ := h.rd hp
  refine ⟨b, off, e, hS.1, hS.2.2.2 hS.1, fun i hi => ?_⟩
  obtain ⟨cs, ⟨x, y, z, A1, c1, rfl, hin⟩, hcell⟩ := hc i hi
  refine ⟨A1, c1, hcell 3 (by simp [ndCells]), ⟨_, hcell 5 (by simp [ndCells])⟩, fun hp2 => ?_⟩
  obtain ⟨b1, of1, e1, hS1, hc1⟩ := hin.attrs hp2
  refine ⟨b1, of1, e1, hS1.1, hS1.2.2.2 hS1.1, fun k hk => ?_⟩
  obtain ⟨cs2, ⟨x2, y2, z2, rfl, _⟩, hcell2⟩ := hc1 k hk
  exact ⟨y2, hcell2 1 (by simp)⟩
theorem Sp.set {w0 w : World} {A : Option Addr} {v : List Nd} (h : Sp w0 A v w) (a : Addr) (ha : w0.heap.size ≤ a.block) (u u' : Value) (hu : w.cell? a = some u) (hk : (∃ s s', u = .string s ∧ u' = .string s') ∨ (∃ m m', u = .int .i64 m ∧ u' = .int .i64 m')) : Sp w0 A v (w.setCell a u') := by
  refine ⟨h.1.setCell ha _, fun hp => ?_⟩
  obtain ⟨b, off, e, hB, hf, hc⟩ := h.2 hp
  refine ⟨b, off, e, hB, fun o => by rw [World.frozen?_setCell]; exact hf o, fun i hi => ?_⟩
  obtain ⟨A1, c1, h3, ⟨m, h5⟩, h6⟩ := hc i hi
  refine ⟨A1, c1, ?_, ?_, fun hp2 => ?_⟩
  · by_cases ea : a = ⟨b, off + i * 6 + 3, none⟩
    · subst ea
      rw [h3] at hu
      rcases hk with ⟨s, s', rfl, _⟩ | ⟨m, m', rfl, _⟩ <;> cases hu
    · rw [World.cell?_setCell_other _ _ _ _ ea]; exact h3
  · by_cases ea : a = ⟨b, off + i * 6 + 5, none⟩
    · subst ea
      rw [h5] at hu
      rcases hk with ⟨s, s', rfl, _⟩ | ⟨m1, m', rfl, rfl⟩
      · cases hu
      · exact ⟨m', World.cell?_setCell_same _ _ _ h5⟩
    · exact ⟨m, by rw [World.cell?_setCell_other _ _ _ _ ea]; exact h5⟩
  · obtain ⟨b1, of1, e1, hB1, hf1, hc1⟩ := h6 hp2
    refine ⟨b1, of1, e1, hB1, fun o => by rw [World.frozen?_setCell]; exact hf1 o, fun k hk2 => ?_⟩
    obtain ⟨s0, hs0⟩ := hc1 k hk2
    by_cases ea : a = ⟨b1, of1 + k * 3 + 1, none⟩
    · subst ea
      rw [hs0] at hu
      rcases hk with ⟨s, s', rfl, rfl⟩ | ⟨m1, m', rfl, _⟩
      · exact ⟨s', World.cell?_setCell_same _ _ _ hs0⟩
      · cases hu
    · exact ⟨s0, by rw [World.cell?_setCell_other _ _ _ _ ea]; exact hs0⟩
set_option maxHeartbeats 16000000 in
set_option maxRecDepth 100000 in
theorem spoil10 (w0 : World) (A : Option Addr) (n c : Nat) (v : List Nd) (w : World) (h : Sp w0 A v w) (hn : v.length = n) (hm : n ≤ 1000000) (hat : ∀ x ∈ v, x.attrs.length ≤ 1000000) :
    Calls Try.prog 21 #[.slice A n c] w fun e w' => e = .returned (.tuple #[]) ∧ Below w0.heap.size w0 w' := by
  have H0 := Lib.hid h
  have HN := Lib.hid hn
  have HM := Lib.hid hm
  have HAT := Lib.hid hat
  clear h hn hm hat
  go_enter Try.func21, Try.ntmps21
  go_wp2_with fail
  go_loopg [2, 3] n (fun gg i x3 wr => ∃ k : Nat, k + gg = n ∧ i = .int .i64 k ∧ Sp w0 A v wr)
  case atStart => exact ⟨0, by omega, rfl, H0.out⟩
  case round =>
    obtain ⟨k, hk, rfl, hsp⟩ := hrel
    obtain ⟨ww, rfl⟩ : ∃ ww : World, ww = wr := ⟨_, rfl⟩
    obtain ⟨g0, rfl⟩ : ∃ g0 : Nat, g0 = gk := ⟨_, rfl⟩
    have HSP := Lib.hid hsp
    have hmm := HM.out
    by_cases hlt : k < n
    · have hk1 : k < v.length := by rw [HN.out]; exact hlt
      obtain ⟨b, off, rfl, -, -, -⟩ := hsp.2 (by omega)
      have hal := HAT.out _ (List.getElem_mem hk1)
      have bk : (0 : Int) ≤ (k : Int) ∧ (k : Int) < (n : Int) := by omega
      have HK1 := Lib.hid hk1
      have HGK := Lib.hid hk
      obtain ⟨m, hmv⟩ : ∃ m, (v[k]'hk1).attrs.length = m := ⟨_, rfl⟩
      have bm : (m : Int) ≤ 1000000 := by omega
      have HMV : Hid ((v[k]'HK1.out).attrs.length = m) := Lib.hid hmv
      clear hsp hmv hal hk
      go_wp2_with fail
      go_loopg [3] m (fun gg i wr => ∃ j : Nat, j + gg = m ∧ i = .int .i64 j ∧ Sp w0 (some ⟨b, off, none⟩) v wr)
      case atStart => exact ⟨0, by omega, rfl, HSP.out⟩
      case round =>
        obtain ⟨j, hj, rfl, hsp⟩ := hrel
        have HS2 := Lib.hid hsp
        obtain ⟨b', off', e, hB, hf, hc⟩ := hsp.2 (by have := HK1.out; omega)
        injection e with e
        injection e with e1 e2 _
        subst e1 e2
        obtain ⟨A1, c1, h3, ⟨mm, h5⟩, h6⟩ := hc k HK1.out
        rw [HMV.out] at h3 h6
        have HBB := Lib.hid hB
        have ff := hf (off + k * 6 + 5)
        by_cases hlj : j < m
        · obtain ⟨b1, of1, rfl, hB1, hf1, hc1⟩ := h6 (by omega)
          obtain ⟨s, hs⟩ := hc1 j hlj
          have fs := hf1 (of1 + j * 3 + 1)
          have bj : (0 : Int) ≤ (j : Int) ∧ (j : Int) < (m : Int) := by omega
          have HNX : Hid (Sp w0 (some ⟨b, off, none⟩) v (wr.setCell ⟨b1, of1 + j * 3 + 1, none⟩ (.string ⟨#[115, 112, 111, 105, 108, 116]⟩))) := Lib.hid (hsp.set _ hB1 _ _ hs (.inl ⟨_, _, rfl, rfl⟩))
          clear hsp hf hc hf1 hc1 h6 hB hB1 h5
          go_wp2_with fail
          go_roundg (gk - 1)
          case rel => exact ⟨j + 1, by omega, by go_num, HNX.out⟩
          case measure => omega
        · have HNX : Hid (Sp w0 (some ⟨b, off, none⟩) v (wr.setCell ⟨b, off + k * 6 + 5, none⟩ (.int .i64 (-7)))) := Lib.hid (hsp.set _ hB _ _ h5 (.inr ⟨_, _, rfl, rfl⟩))
          clear hsp hf hc h6 hB
          go_wp2_with fail
          go_roundg (g0 - 1)
          case rel => exact ⟨k + 1, by have := HGK.out; omega, by go_num, HNX.out⟩
          case measure => have := HGK.out; omega
    · have HBB := Lib.hid hsp.1
      clear hsp
      go_wp2_with fail
      go_end0
      exact ⟨rfl, HBB.out⟩
end Hx
end Go.Proofs.Ytkmaogafknehgaa
namespace Go.Proofs.Ytkmaogafknehgaa
open Go.RowKit
namespace Hx
open Lx Tr Tx Nmb Es
set_option linter.unusedVariables false
/-- Nodes of one's own that may be written over: they lie between two blocks. -/
def Sp2 (lo hi : Nat) (w0 : World) (A : Option Addr) (v : List Nd) (w : World) : Prop := Below lo w0 w ∧ (∀ k, hi ≤ k → w.heap[k]? = w0.heap[k]?) ∧
  (0 < v.length → ∃ b off, A = some ⟨b, off, none⟩ ∧ (lo ≤ b ∧ b < hi) ∧ (∀ o, w.frozen? ⟨b, o, none⟩ = false) ∧ ∀ i (h : i < v.length), ∃ A1 c1, w.cell? ⟨b, off + i * 6 + 3, none⟩ = some (.slice A1 (v[i]'h).attrs.length c1) ∧ (∃ m, w.cell? ⟨b, off + i * 6 + 5, none⟩ = some (.int .i64 m)) ∧
    (0 < (v[i]'h).attrs.length → ∃ b1 of1, A1 = some ⟨b1, of1, none⟩ ∧ (lo ≤ b1 ∧ b1 < hi) ∧ (∀ o, w.frozen? ⟨b1, o, none⟩ = false) ∧ ∀ k, k < (v[i]'h).attrs.length → ∃ s, w.cell? ⟨b1, of1 + k * 3 + 1, none⟩ = some (.string s)))
theorem Sp2.made {lo hi : Nat} {w : World} {A : Option Addr} {v : List Nd} (h2 : RdS NdS w (fun k => lo ≤ k ∧ k < hi ∧ ∀ o, w.frozen? ⟨k, o, none⟩ = false) A v) : Sp2 lo hi w A v w := by
  refine ⟨Below.refl _ _, fun _ _ => rfl, fun hp => ?_⟩
  obtain ⟨b, off, e, hS, hc⟩ := h2 hp
  refine ⟨b, off, e, ⟨hS.1, hS.2.1⟩, hS.2.2, fun i hi => ?_⟩
  obtain ⟨cs, ⟨x, y, z, A1, c1, rfl, hin⟩, hcell⟩ := hc i hi
  refine ⟨A1, c1, hcell 3 (by simp [ndCells]), ⟨_, hcell 5 (by simp [ndCells])⟩, fun hp2 => ?_⟩
  obtain ⟨b1, of1, e1, hS1, hc1⟩ := hin.attrs hp2
  refine ⟨b1, of1, e1, ⟨hS1.1, hS1.2.1⟩, hS1.2.2, fun k hk => ?_⟩
  obtain ⟨cs2, ⟨x2, y2, z2, rfl, _⟩, hcell2⟩ := hc1 k hk
  exact ⟨y2, hcell2 1 (by simp)⟩
theorem Sp2.of {w0 w1 w : World} {A : Option Addr} {v : List Nd} {c : Nat} (h : NdOut w0.heap.size w0 v A c w1) (hb : Below w1.heap.size w1 w) : Sp2 w0.heap.size w1.heap.size w A v w :=
  Sp2.made (h.rd.keep (fun k hk => ⟨hk.1, hk.2.1, fun o => (hb.frozen (p := ⟨k, o, none⟩) hk.2.1).trans (hk.2.2.2 hk.1 o)⟩) fun b o hk => hb.cell (p := ⟨b, o, none⟩) hk.2.1)
theorem sp2_other (w : World) (a : Addr) (q : Nat) (x : Value) (h : a.block < q) : (w.setCell a x).heap[q]? = w.heap[q]? := by
  unfold World.setCell
  dsimp only
  rw [Array.getElem?_modify, if_neg (by omega)]
theorem Sp2.set {lo hi : Nat} {w0 w : World} {A : Option Addr} {v : List Nd} (h : Sp2 lo hi w0 A v w) (a : Addr) (ha : lo ≤ a.block ∧ a.block < hi) (u u' : Value) (hu : w.cell? a = some u) (hk : (∃ s s', u = .string s ∧ u' = .string s') ∨ (∃ m m', u = .int .i64 m ∧ u' = .int .i64 m')) : Sp2 lo hi w0 A v (w.setCell a u') := by
  refine ⟨h.1.setCell ha.1 _, fun k hk => (sp2_other w a k u' (by omega)).trans (h.2.1 k hk), fun hp => ?_⟩
  obtain ⟨b, off, e, hB, hf, hc⟩ := h.2.2 hp
  refine ⟨b, off, e, hB, fun o => by rw [World.frozen?_setCell]; exact hf o, fun i hi => ?_⟩
  obtain ⟨A1, c1, h3, ⟨m, h5⟩, h6⟩ := hc i hi
  refine ⟨A1, c1, ?_, ?_, fun hp2 => ?_⟩
  · by_cases ea : a = ⟨b, off + i * 6 + 3, none⟩
    · subst ea
      rw [h3] at hu
      rcases hk with ⟨s, s', rfl, _⟩ | ⟨m, m', rfl, _⟩ <;> cases hu
    · rw [World.cell?_setCell_other _ _ _ _ ea]; exact h3
  · by_cases ea : a = ⟨b, off + i * 6 + 5, none⟩
    · subst ea
      rw [h5] at hu
      rcases hk with ⟨s, s', rfl, _⟩ | ⟨m1, m', rfl, rfl⟩
      · cases hu
      · exact ⟨m', World.cell?_setCell_same _ _ _ h5⟩
    · exact ⟨m, by rw [World.cell?_setCell_other _ _ _ _ ea]; exact h5⟩
  · obtain ⟨b1, of1, e1, hB1, hf1, hc1⟩ := h6 hp2
    refine ⟨b1, of1, e1, hB1, fun o => by rw [World.frozen?_setCell]; exact hf1 o, fun k hk2 => ?_⟩
    obtain ⟨s0, hs0⟩ := hc1 k hk2
    by_cases ea : a = ⟨b1, of1 + k * 3 + 1, none⟩
    · subst ea
      rw [hs0] at hu
      rcases hk with ⟨s, s', rfl, rfl⟩ | ⟨m1, m', rfl, _⟩
      · exact ⟨s', World.cell?_setCell_same _ _ _ hs0⟩
      · cases hu
    · exact ⟨s0, by rw [World.cell?_setCell_other _ _ _ _ ea]; exact hs0⟩
set_option maxHeartbeats 16000000 in
set_option maxRecDepth 100000 in
theorem spoil11 (lo hi : Nat) (w0 : World) (A : Option Addr) (n c : Nat) (v : List Nd) (w : World) (h : Sp2 lo hi w0 A v w) (hn : v.length = n) (hm : n ≤ 1000000) (hat : ∀ x ∈ v, x.attrs.length ≤ 1000000) :
    Calls Try.prog 21 #[.slice A n c] w fun e w' => e = .returned (.tuple #[]) ∧ Below lo w0 w' ∧ ∀ k, hi ≤ k → w'.heap[k]? = w0.heap[k]? := by
  have H0 := Lib.hid h
  have HN := Lib.hid hn
  have HM := Lib.hid hm
  have HAT := Lib.hid hat
  clear h hn hm hat
  go_enter Try.func21, Try.ntmps21
  go_wp2_with fail
  go_loopg [2, 3] n (fun gg i x3 wr => ∃ k : Nat, k + gg = n ∧ i = .int .i64 k ∧ Sp2 lo hi w0 A v wr)
  case atStart => exact ⟨0, by omega, rfl, H0.out⟩
  case round =>
    obtain ⟨k, hk, rfl, hsp⟩ := hrel
    obtain ⟨ww, rfl⟩ : ∃ ww : World, ww = wr := ⟨_, rfl⟩
    obtain ⟨g0, rfl⟩ : ∃ g0 : Nat, g0 = gk := ⟨_, rfl⟩
    have HSP := Lib.hid hsp
    have hmm := HM.out
    by_cases hlt : k < n
    · have hk1 : k < v.length := by rw [HN.out]; exact hlt
      obtain ⟨b, off, rfl, -, -, -⟩ := hsp.2.2 (by omega)
      have hal := HAT.out _ (List.getElem_mem hk1)
      have bk : (0 : Int) ≤ (k : Int) ∧ (k : Int) < (n : Int) := by omega
      have HK1 := Lib.hid hk1
      have HGK := Lib.hid hk
      obtain ⟨m, hmv⟩ : ∃ m, (v[k]'hk1).attrs.length = m := ⟨_, rfl⟩
      have bm : (m : Int) ≤ 1000000 := by omega
      have HMV : Hid ((v[k]'HK1.out).attrs.length = m) := Lib.hid hmv
      clear hsp hmv hal hk
      go_wp2_with fail
      go_loopg [3] m (fun gg i wr => ∃ j : Nat, j + gg = m ∧ i = .int .i64 j ∧ Sp2 lo hi w0 (some ⟨b, off, none⟩) v wr)
      case atStart => exact ⟨0, by omega, rfl, HSP.out⟩
      case round =>
        obtain ⟨j, hj, rfl, hsp⟩ := hrel
        have HS2 := Lib.hid hsp
        obtain ⟨b', off', e, hB, hf, hc⟩ := hsp.2.2 (by have := HK1.out; omega)
        injection e with e
        injection e with e1 e2 _
        subst e1 e2
        obtain ⟨A1, c1, h3, ⟨mm, h5⟩, h6⟩ := hc k HK1.out
        rw [HMV.out] at h3 h6
        have HBB := Lib.hid hB
        have ff := hf (off + k * 6 + 5)
        by_cases hlj : j < m
        · obtain ⟨b1, of1, rfl, hB1, hf1, hc1⟩ := h6 (by omega)
          obtain ⟨s, hs⟩ := hc1 j hlj
          have fs := hf1 (of1 + j * 3 + 1)
          have bj : (0 : Int) ≤ (j : Int) ∧ (j : Int) < (m : Int) := by omega
          have HNX : Hid (Sp2 lo hi w0 (some ⟨b, off, none⟩) v (wr.setCell ⟨b1, of1 + j * 3 + 1, none⟩ (.string ⟨#[115, 112, 111, 105, 108, 116]⟩))) := Lib.hid (hsp.set _ hB1 _ _ hs (.inl ⟨_, _, rfl, rfl⟩))
          clear hsp hf hc hf1 hc1 h6 hB hB1 h5
          go_wp2_with fail
          go_roundg (gk - 1)
          case rel => exact ⟨j + 1, by omega, by go_num, HNX.out⟩
          case measure => omega
        · have HNX : Hid (Sp2 lo hi w0 (some ⟨b, off, none⟩) v (wr.setCell ⟨b, off + k * 6 + 5, none⟩ (.int .i64 (-7)))) := Lib.hid (hsp.set _ hB _ _ h5 (.inr ⟨_, _, rfl, rfl⟩))
          clear hsp hf hc h6 hB
          go_wp2_with fail
          go_roundg (g0 - 1)
          case rel => exact ⟨k + 1, by have := HGK.out; omega, by go_num, HNX.out⟩
          case measure => have := HGK.out; omega
    · have HBB := Lib.hid (And.intro hsp.1 hsp.2.1)
      clear hsp
      go_wp2_with fail
      go_end0
      exact ⟨rfl, HBB.out.1, HBB.out.2⟩
end Hx
end Go.Proofs.Ytkmaogafknehgaa
