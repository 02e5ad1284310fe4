/-
  Texts of one seat, put together: SpaE.
-/
import Derived.Test.YteobcohjikjalaaGreatDoorSp32
set_option linter.unusedSimpArgs false
namespace Go.Proofs.YteobcohjikjalaaGreatDoor
open Go.RowKit
namespace Hx
open Lx Tr Tx Nmb Es Ns
set_option maxRecDepth 100000
set_option maxHeartbeats 16000000
set_option linter.unusedVariables false
theorem contains11 (s : ByteArray) (q : Bool) (h : (cutC s.data.toList).isSome = q) (w : World) :
    Calls Tryz.prog 42 #[.string s, .string ⟨#[58]⟩] w fun e w' => e = .returned (.bool q) ∧ Below w.heap.size w w' := by
  refine (Tryz.strings_Contains_one s 58 w).mono fun e w' hh => ?_
  obtain ⟨h1, rfl⟩ := hh
  refine ⟨?_, Below.refl _ _⟩
  rw [h1, ← h]
  rcases xix_cases s.data.toList 58 with ⟨h2, h3⟩ | ⟨i, h2, _, h3, _⟩
  · have : cutC s.data.toList = none := by
      cases hc : cutC s.data.toList with
      | none => rfl
      | some x =>
        obtain ⟨a, b⟩ := x
        obtain ⟨e1, _⟩ := cutC_some hc
        exact absurd (by rw [e1]; simp) h3
    rw [this, h2]
    rfl
  · rw [cutC_some9 (by rw [h3]; simp), h2, decide_eq_true (by omega)]
def stepR (E : List (List At)) (s : List At × Bool) (a : At) : List At × Bool := match decl a.name with
  | some _ => s
  | none => (s.1 ++ [(atE E a).1], (s.2 && (atE E a).2) && !hasK s.1 (atE E a).1)
theorem foldR_eq (E : List (List At)) : ∀ (l : List At) (L : List At) (ok : Bool), declsOk l = true → l.foldl (stepR E) (L, ok) = ((atsE E L l).1, ok && (atsE E L l).2)
  | [], L, ok, _ => by simp [atsE]
  | a :: l, L, ok, h => by
    unfold declsOk at h
    rw [List.all_cons, Bool.and_eq_true] at h
    have ih := fun L ok => foldR_eq E l L ok h.2
    have h1 := h.1
    rw [List.foldl_cons, atsE]
    cases hd : decl a.name with
    | some p =>
      rw [hd] at h1
      have hs : stepR E (L, ok) a = (L, ok) := by unfold stepR; rw [hd]
      dsimp only at h1 ⊢
      rw [hs, ih, h1, Bool.true_and]
    | none =>
      have hs : stepR E (L, ok) a = (L ++ [(atE E a).1], (ok && (atE E a).2) && !hasK L (atE E a).1) := by unfold stepR; rw [hd]
      dsimp only
      rw [hs, ih]
      simp only [Bool.and_assoc]
theorem foldR_len (E : List (List At)) : ∀ (l : List At) (L : List At) (ok : Bool), (l.foldl (stepR E) (L, ok)).1.length ≤ L.length + l.length
  | [], L, ok => by simp
  | a :: l, L, ok => by
    rw [List.foldl_cons]
    obtain ⟨p, hp⟩ : ∃ p, stepR E (L, ok) a = p := ⟨_, rfl⟩
    obtain ⟨L2, ok2⟩ := p
    have h2 : L2.length ≤ L.length + 1 := by
      unfold stepR at hp
      cases hd : decl a.name with
      | some p => rw [hd] at hp; dsimp only at hp; injection hp with h1 _; rw [← h1]; omega
      | none => rw [hd] at hp; dsimp only at hp; injection hp with h1 _; rw [← h1]; simp
    rw [hp]
    have := foldR_len E l L2 ok2
    rw [List.length_cons]
    omega
def okR (E : List (List At)) (nm : List UInt8) (l : List At) : Bool := (lookE E (Ns.nameP nm).1).2 && (atsE E [] l).2
def ResEl (E : List (List At)) (nl : List UInt8) (l : List At) (b g : Nat) (D : List (List UInt8 × AB)) (kv mv : Value) (z : ByteArray) (w : World) (e : Ending) (w' : World) : Prop := ∃ (s nm : ByteArray) (A' : Option Addr) (c' : Nat) (L : List AB), e = .returned (.bool (okR E nl l)) ∧ s.data.toList = (lookE E (Ns.nameP nl).1).1 ∧ nm.data.toList = (Ns.nameP nl).2 ∧ L.map abVal = (atsE E [] l).1 ∧
  w'.ownsRow w.heap.size 41 3 (.slice A' L.length c') L.length (L.flatMap abCells) ∧ w'.heap[g]? = some (.cells #[kv, .string s, .string nm, .slice A' L.length c', .string z, mv] 39 (0, 0)) ∧ Below g w w' ∧ w.heap.size ≤ w'.heap.size ∧ MapD w' b D
structure ReSt (E : List (List At)) (ok0 : Bool) (l : List At) (j : Nat) (base : Nat) (w : World) (L : List AB) (ok : Bool) (V : Value) (wr : World) : Prop where
  fold : (l.take j).foldl (stepR E) ([], ok0) = (L.map abVal, ok)
  own : wr.ownsRow base 41 3 V L.length (L.flatMap abCells)
  sz : base ≤ wr.heap.size
  below : Below base w wr
theorem ReSt.len {E : List (List At)} {ok0 : Bool} {l : List At} {j base : Nat} {w : World} {L : List AB} {ok : Bool} {V : Value} {wr : World} (h : ReSt E ok0 l j base w L ok V wr) : L.length ≤ j := by
  have := foldR_len E (l.take j) [] ok0
  rw [h.fold, List.length_map, List.length_take] at this
  simp at this
  omega
theorem ReSt.skip {E : List (List At)} {ok0 : Bool} {l : List At} {j base : Nat} {w : World} {L : List AB} {ok : Bool} {V : Value} {wr : World} (h : ReSt E ok0 l j base w L ok V wr) {a : At} (ha : l.take (j + 1) = l.take j ++ [a]) (hd : (decl a.name).isSome = true) {w' : World} (hb : Below wr.heap.size wr w') : ReSt E ok0 l (j + 1) base w L ok V w' := by
  refine ⟨?_, own_belowK h.own hb (Nat.le_refl _), Nat.le_trans h.sz hb.size, h.below.trans (hb.mono h.sz)⟩
  rw [ha, List.foldl_append, h.fold]
  obtain ⟨p, hp⟩ := Option.isSome_iff_exists.1 hd
  show stepR E (L.map abVal, ok) a = _
  unfold stepR
  rw [hp]
theorem ReSt.snoc {E : List (List At)} {ok0 : Bool} {l : List At} {j base : Nat} {w : World} {L : List AB} {ok : Bool} {V : Value} {wr : World} (h : ReSt E ok0 l j base w L ok V wr) {a : At} (ha : l.take (j + 1) = l.take j ++ [a]) (hd : (decl a.name).isSome = false) (b : AB) (hb : abVal b = (atE E a).1) (ok2 : Bool) (hok : ((ok && (atE E a).2) && !hasK (L.map abVal) (atE E a).1) = ok2) {w4 w5 : World} {V5 : Value}
    (h4 : Below base w w4) (hz4 : base ≤ w4.heap.size) (hV : ∀ g, V.ownBlock = some g → base ≤ g) (hown : w5.ownsRow base 41 3 V5 (L.length + 1) (L.flatMap abCells ++ abCells b)) (hgr : w4.grownBy w5 V.ownBlock) : ReSt E ok0 l (j + 1) base w (L ++ [b]) ok2 V5 w5 := by
  refine ⟨?_, ?_, Nat.le_trans hz4 hgr.size, h4.grown hgr hz4 hV⟩
  · rw [ha, List.foldl_append, h.fold]
    show stepR E (L.map abVal, ok) a = _
    unfold stepR
    have hdn : decl a.name = none := by cases hd2 : decl a.name with
      | none => rfl
      | some p => rw [hd2] at hd; cases hd
    rw [hdn]
    dsimp only
    rw [hok, List.map_append, List.map_cons, List.map_nil, hb]
  · rw [List.length_append, List.flatMap_append, List.flatMap_cons, List.flatMap_nil, List.append_nil]
    exact hown
theorem resolve11 (b g : Nat) (D : List (List UInt8 × AB)) (E : List (List At)) (kv mv : Value) (x y z : ByteArray) (A : Option Addr) (n c : Nat) (l : List At) (w : World) (hm : MapD w b D) (hE : EnvD D E)
    (hg : w.heap[g]? = some (.cells #[kv, .string x, .string y, .slice A n c, .string z, mv] 39 (0, 0))) (hgb : g < b) (hr : RdB AtS w A l) (hn : l.length = n) (hna : n ≤ 1000000) (hys : y.size ≤ 1000000) (hsz : ∀ a ∈ l, a.name.length ≤ 1000000) (hraw : ∀ a ∈ l, a.space = []) (hok : declsOk l = true) :
    Calls Tryz.prog 20 #[.map (some b), .pointer (some ⟨g, 0, none⟩)] w (ResEl E y.data.toList l b g D kv mv z w) := by
  obtain ⟨i0, hi, hz0, hz1, hz2⟩ := info_parts infoAt
  have HI := Lib.hid hi
  have HZ0 := Lib.hid hz0
  have HZ1 := Lib.hid hz1
  have HZ2 := Lib.hid hz2
  have HM := Lib.hid hm
  have HG := Lib.hid hg
  have HR := Lib.hid hr
  have HN := Lib.hid hn
  have HSZ := Lib.hid hsz
  have HRAW := Lib.hid hraw
  have HDO := Lib.hid hok
  have HGB := Lib.hid hgb
  have HBL : Hid (b < w.heap.size) := Lib.hid (by obtain ⟨es, cl, hb, _⟩ := hm; exact (Array.getElem?_eq_some_iff.1 hb).1)
  obtain ⟨nl, hnl⟩ : ∃ nl, y.data.toList = nl := ⟨_, rfl⟩
  obtain ⟨ok0, hok0⟩ : ∃ ok0, (lookE E (Ns.nameP nl).1).2 = ok0 := ⟨_, rfl⟩
  obtain ⟨okq, hokq⟩ : ∃ okq, okR E nl l = okq := ⟨_, rfl⟩
  have HOKQ := Lib.hid hokq
  have HOK0 := Lib.hid hok0
  have HNL := Lib.hid hnl
  have HFD := Lib.hid (find11 b D E y w hm hE hys)
  have HMF : Hid (∀ W, Below w.heap.size w W → ∀ f : ByteArray, f.size ≤ 1000000 → Calls Tryz.prog 41 #[.map (some b), .string f] W fun e w' => (∃ s nm : ByteArray, e = .returned (.tuple #[.string s, .string nm, .bool (lookE E (Ns.nameP f.data.toList).1).2]) ∧ s.data.toList = (lookE E (Ns.nameP f.data.toList).1).1 ∧ nm.data.toList = (Ns.nameP f.data.toList).2) ∧ Below W.heap.size W w') := Lib.hid fun W hW f hf => find11 b D E f W (hm.kept (hW.block b HBL.out)) hE hf
  rw [hnl, hok0] at HFD
  rw [hnl]
  have k02 := cellV w g 2 _ _ _ hg
  have bn : (n : Int) ≤ 1000000 := by omega
  clear hi hz0 hz1 hz2 hm hg hr hn hsz hraw hok hgb hokq hok0 hnl hE
  go_enter Tryz.func20, Tryz.ntmps20
  go_wp2_with (first
    | (go_at_call 41; (with_reducible refine (HFD.out).mono ?_); rintro e1 w1 ⟨⟨s1, nm1, rfl, hs1, hnm1⟩, hb1⟩; have HB1 := Lib.hid hb1; have HS1 := Lib.hid hs1; have HNM1 := Lib.hid hnm1; have HG1 := Lib.hid (kept_heap HG.out hb1); have k13 := cellV w1 g 3 _ _ _ HG1.out; clear hb1 hs1 hnm1)
    | fail)
  go_loopg [7, 8, 27] n (fun gg x7 x8 i wr => ∃ (j : Nat) (ok : Bool) (L : List AB), j + gg = n ∧ i = .int .i64 j ∧ x7 = .bool ok ∧ (∃ A1 c1, x8 = .slice A1 L.length c1) ∧ ReSt E ok0 l j w.heap.size w L ok x8 wr)
  case atStart => exact ⟨0, ok0, [], by omega, rfl, rfl, ⟨none, 0, rfl⟩, ⟨rfl, World.ownsRow_nil _ _ _ _, HB1.out.size, HB1.out⟩⟩
  case round =>
    obtain ⟨j, ok, L, hjg, rfl, rfl, ⟨A1, c1, rfl⟩, hst⟩ := hrel
    have HST := Lib.hid hst
    have HBW := Lib.hid hst.below
    have HVB : Hid (∀ g, (Value.slice A1 L.length c1).ownBlock = some g → w.heap.size ≤ g) := Lib.hid fun g hg => (hst.own.lt g hg).1
    by_cases hlt : j < n
    · have hjl : j < l.length := by rw [HN.out]; exact hlt
      obtain ⟨b0, off, x2, y2, z2, hA, hbB, hx, hy, hz, c0, c1', c2⟩ := at_at HR.out hjl
      have hnm := HSZ.out _ (List.getElem_mem hjl)
      have hrw := HRAW.out _ (List.getElem_mem hjl)
      obtain ⟨a, ha⟩ : ∃ a, l[j]'hjl = a := ⟨_, rfl⟩
      rw [ha] at hx hy hz hnm hrw
      have hys2 : y2.size ≤ 1000000 := by rw [sz_le hy]; exact hnm
      have q0 := (HBW.out.cell (p := ⟨b0, _, none⟩) hbB).trans c0
      have q1 := (HBW.out.cell (p := ⟨b0, _, none⟩) hbB).trans c1'
      have q2 := (HBW.out.cell (p := ⟨b0, _, none⟩) hbB).trans c2
      have htk : l.take (j + 1) = l.take j ++ [a] := by rw [List.take_succ_eq_append_getElem hjl, ha]
      have HTK := Lib.hid htk
      have bj : (0 : Int) ≤ (j : Int) ∧ (j : Int) < (n : Int) := by omega
      obtain ⟨W1, hW1⟩ : ∃ W1, wr.alloc (.cells #[.string x2, .string y2, .string z2] 41) = W1 := ⟨_, rfl⟩
      have HB1 : Hid (Below wr.heap.size wr W1) := Lib.hid (by rw [← hW1]; exact stpA (Below.refl _ _) _)
      have HX1 : Hid (W1.heap[wr.heap.size]? = some (.cells #[.string x2, .string y2, .string z2] 41 (0, 0))) := Lib.hid (by rw [← hW1]; exact heap_alloc_new wr _)
      obtain ⟨dq, hdq⟩ : ∃ dq, (decl a.name).isSome = dq := ⟨_, rfl⟩
      have HDQ := Lib.hid hdq
      have HDC : Hid (Calls Tryz.prog 38 #[.agg #[.string x2, .string y2, .string z2]] W1 fun e w' => e = .returned (.bool dq) ∧ Below W1.heap.size W1 w') := Lib.hid (declares11 ⟨x2, y2, z2⟩ W1 dq (by show (decl y2.data.toList).isSome = dq; rw [hy]; exact hdq))
      obtain ⟨cq, hcq⟩ : ∃ cq, (cutC a.name).isSome = cq := ⟨_, rfl⟩
      have HCT : Hid (∀ W : World, Calls Tryz.prog 42 #[.string y2, .string ⟨#[58]⟩] W fun e w' => e = .returned (.bool cq) ∧ Below W.heap.size W w') := Lib.hid fun W => contains11 y2 cq (by rw [hy]; exact hcq) W
      have HHAS : Hid (∀ W (X Y Z : ByteArray), Below wr.heap.size wr W → ∀ q, hasK (L.map abVal) ⟨X.data.toList, Y.data.toList, Z.data.toList⟩ = q → Calls Tryz.prog 43 #[.slice A1 L.length c1, .agg #[.string X, .string Y, .string Z]] W fun e w' => e = .returned (.bool q) ∧ Below W.heap.size W w') := Lib.hid fun W X Y Z hW q hq => by
        have ho := own_belowK hst.own hW (Nat.le_refl _)
        obtain ⟨r1, _⟩ := RdS.of_own (C := AtS) (S := fun b => b < W.heap.size) abCells abVal (fun _ => rfl) (by decide) L (fun b _ => ab_R W _ b) (fun g hg => (ho.lt g hg).2) ho
        exact has11 X Y Z A1 L.length c1 (L.map abVal) W r1 (by rw [List.length_map]) (by have := hst.len; omega) ⟨X.data.toList, Y.data.toList, Z.data.toList⟩ rfl rfl q hq
      subst hA
      have HXD := Lib.hid hx
      have HYD := Lib.hid hy
      have HZD := Lib.hid hz
      obtain ⟨iq, hiq⟩ : ∃ iq, (lookE E (Ns.nameP a.name).1).2 = iq := ⟨_, rfl⟩
      have HFM : Hid (∀ W, Below w.heap.size w W → Calls Tryz.prog 41 #[.map (some b), .string y2] W fun e w' => (∃ s nm : ByteArray, e = .returned (.tuple #[.string s, .string nm, .bool iq]) ∧ s.data.toList = (lookE E (Ns.nameP a.name).1).1 ∧ nm.data.toList = (Ns.nameP a.name).2) ∧ Below W.heap.size W w') := Lib.hid fun W hW => by
        have := HMF.out W hW y2 hys2
        rw [hy, hiq] at this
        exact this
      cases dq with
      | true =>
        have HNX : Hid (∀ w', Below wr.heap.size wr w' → ReSt E ok0 l (j + 1) w.heap.size w L ok (.slice A1 L.length c1) w') := Lib.hid fun w' hw => hst.skip htk hdq hw
        clear hst hx hy hz c0 c1' c2 htk ha hnm hdq hjl hbB hcq HTK HDQ HXD HYD HZD HFM HHAS HCT hrw hiq hys2
        go_wp2_with (first
          | (refine wpList_store_row rfl _ _ _ rfl wr.heap.size #[.string x2, .string y2, .string z2] rfl rfl 41 #[.string ⟨#[]⟩, .string ⟨#[]⟩, .string ⟨#[]⟩] (heap_alloc_new _ _) sizeAt rfl (by simp [Value.oneCell']) ?_; rw [World.setRow_alloc_new, hW1])
          | (refine wpList_load_row rfl _ _ rfl wr.heap.size rfl 41 #[.string x2, .string y2, .string z2] (0, 0) _ HX1.out Tryz.underlying41 rfl sizeAt ?_)
          | (go_at_call 38; (with_reducible refine (HDC.out).mono ?_); rintro e2 w2 ⟨rfl, hb2⟩; have HB2 := Lib.hid (stp HB1.out hb2); have HX2 := Lib.hid (kept_heap HX1.out hb2); have k20 := cellV w2 _ 0 _ _ _ HX2.out; have k21 := cellV w2 _ 1 _ _ _ HX2.out; clear hb2)
          | fail)
        go_roundg (gk - 1)
        case measure => omega
        case rel => exact ⟨j + 1, ok, L, by omega, by go_num, rfl, ⟨_, _, rfl⟩, HNX.out _ HB2.out⟩
      | false =>
        cases cq with
        | false =>
          have hcn : cutC a.name = none := by cases hc : cutC a.name with
            | none => rfl
            | some p => rw [hc] at hcq; cases hcq
          have hae : atE E a = (⟨[], a.name, a.value⟩, true) := by unfold atE; rw [hcn]
          have HAV : Hid (abVal ⟨x2, y2, z2⟩ = (atE E a).1) := Lib.hid (by rw [hae]; unfold abVal; dsimp only; rw [hx, hy, hz, hrw])
          have HAE : Hid ((atE E a).2 = true) := Lib.hid (by rw [hae])
          obtain ⟨hq, hhq⟩ : ∃ hq, hasK (L.map abVal) (atE E a).1 = hq := ⟨_, rfl⟩
          have HHQ : Hid (∀ W, Below wr.heap.size wr W → Calls Tryz.prog 43 #[.slice A1 L.length c1, .agg #[.string x2, .string y2, .string z2]] W fun e w' => e = .returned (.bool hq) ∧ Below W.heap.size W w') := Lib.hid fun W hW => HHAS.out W x2 y2 z2 hW hq (by rw [← hhq, ← HAV.out]; rfl)
          cases ok with
          | false =>
          have HOK : Hid ((((false : Bool) && (atE E a).2) && !hasK (L.map abVal) (atE E a).1) = false) := Lib.hid (by rw [HAE.out, hhq]; simp)
          clear hst hx hy hz c0 c1' c2 htk ha hnm hdq hjl hbB hrw hiq hys2 HXD HYD HZD hae hcn hcq hhq HFM HHAS HAE
          go_wp2_with (first
          | (refine wpList_store_row rfl _ _ _ rfl wr.heap.size #[.string x2, .string y2, .string z2] rfl rfl 41 #[.string ⟨#[]⟩, .string ⟨#[]⟩, .string ⟨#[]⟩] (heap_alloc_new _ _) sizeAt rfl (by simp [Value.oneCell']) ?_; rw [World.setRow_alloc_new, hW1])
          | (go_at_call 38; (with_reducible refine (HDC.out).mono ?_); rintro e2 w2 ⟨rfl, hb2⟩; have HB2 := Lib.hid (stp HB1.out hb2); have HX2 := Lib.hid (kept_heap HX1.out hb2); have k20 := cellV w2 _ 0 _ _ _ HX2.out; have k21 := cellV w2 _ 1 _ _ _ HX2.out; clear hb2)
          | (go_at_call 42; (with_reducible refine (HCT.out w2).mono ?_); rintro e3 w3 ⟨rfl, hb3⟩; have HB3 := Lib.hid (stp HB2.out hb3); have HX3 := Lib.hid (kept_heap HX2.out hb3); have k30 := cellV w3 _ 0 _ _ _ HX3.out; have k31 := cellV w3 _ 1 _ _ _ HX3.out; have k32 := cellV w3 _ 2 _ _ _ HX3.out; clear hb3)
          | (refine wpList_load_row rfl _ _ rfl wr.heap.size rfl 41 #[.string x2, .string y2, .string z2] (0, 0) _ HX1.out Tryz.underlying41 rfl sizeAt ?_)
          | (refine wpList_load_row rfl _ _ rfl wr.heap.size rfl 41 #[.string x2, .string y2, .string z2] (0, 0) _ HX3.out Tryz.underlying41 rfl sizeAt ?_)
          | (at_builtin; refine wpList_append_own_at _ rfl (.tmp 57) (.tmp 59) 37 rfl w.heap.size 41 i0 (.agg #[.string ⟨#[]⟩, .string ⟨#[]⟩, .string ⟨#[]⟩]) 3 48 Tryz.underlying37 HI.out HZ0.out HZ1.out HZ2.out rfl (by decide) _ L.length _ rfl (own_belowK HST.out.own (stpA HB3.out _) (Nat.le_refl _)) ⟨w3.heap.size, 0, none⟩ 1 1 [.string x2, .string y2, .string z2] rfl rfl (new_at (w3) [.string x2, .string y2, .string z2] 41 w3.heap.size (rfl)) (by simp [Value.oneCell']) (by have := HST.out.len; unfold maxLen; omega) (by have := HST.out.len; omega) (by have := HST.out.sz; have := (HB3.out).size; rw [World.size_alloc]; omega) ?_; intro v5 w5 hown5 hgr5 _ _; obtain ⟨A5, c5, rfl⟩ := own_form2 hown5; have HST5 := Lib.hid (HST.out.snoc HTK.out HDQ.out ⟨x2, y2, z2⟩ HAV.out _ HOK.out (HST.out.below.trans ((stpA (HB3.out) _).mono HST.out.sz)) (by have := HST.out.sz; have := (HB3.out).size; rw [World.size_alloc]; omega) HVB.out hown5 hgr5); clear hown5 hgr5)
          | fail)
          go_roundg (gk - 1)
          case measure => omega
          case rel => exact ⟨j + 1, _, _, by omega, by go_num, by rfl, ⟨_, _, by rw [List.length_append]; rfl⟩, HST5.out⟩
          | true =>
          have HOK : Hid ((((true : Bool) && (atE E a).2) && !hasK (L.map abVal) (atE E a).1) = (!hq)) := Lib.hid (by rw [HAE.out, hhq]; simp)
          clear hst hx hy hz c0 c1' c2 htk ha hnm hdq hjl hbB hrw hiq hys2 HXD HYD HZD hae hcn hcq hhq HFM HHAS HAE
          go_wp2_with (first
          | (refine wpList_store_row rfl _ _ _ rfl wr.heap.size #[.string x2, .string y2, .string z2] rfl rfl 41 #[.string ⟨#[]⟩, .string ⟨#[]⟩, .string ⟨#[]⟩] (heap_alloc_new _ _) sizeAt rfl (by simp [Value.oneCell']) ?_; rw [World.setRow_alloc_new, hW1])
          | (go_at_call 38; (with_reducible refine (HDC.out).mono ?_); rintro e2 w2 ⟨rfl, hb2⟩; have HB2 := Lib.hid (stp HB1.out hb2); have HX2 := Lib.hid (kept_heap HX1.out hb2); have k20 := cellV w2 _ 0 _ _ _ HX2.out; have k21 := cellV w2 _ 1 _ _ _ HX2.out; clear hb2)
          | (go_at_call 42; (with_reducible refine (HCT.out w2).mono ?_); rintro e3 w3 ⟨rfl, hb3⟩; have HB3 := Lib.hid (stp HB2.out hb3); have HX3 := Lib.hid (kept_heap HX2.out hb3); have k30 := cellV w3 _ 0 _ _ _ HX3.out; have k31 := cellV w3 _ 1 _ _ _ HX3.out; have k32 := cellV w3 _ 2 _ _ _ HX3.out; clear hb3)
          | (refine wpList_load_row rfl _ _ rfl wr.heap.size rfl 41 #[.string x2, .string y2, .string z2] (0, 0) _ HX1.out Tryz.underlying41 rfl sizeAt ?_)
          | (refine wpList_load_row rfl _ _ rfl wr.heap.size rfl 41 #[.string x2, .string y2, .string z2] (0, 0) _ HX3.out Tryz.underlying41 rfl sizeAt ?_)
          | (go_at_call 43; (with_reducible refine (HHQ.out w3 HB3.out).mono ?_); rintro e4 w4 ⟨rfl, hb4⟩; have HB4 := Lib.hid (stp HB3.out hb4); have HX4 := Lib.hid (kept_heap HX3.out hb4); clear hb4)
          | (refine wpList_load_row rfl _ _ rfl wr.heap.size rfl 41 #[.string x2, .string y2, .string z2] (0, 0) _ HX4.out Tryz.underlying41 rfl sizeAt ?_)
          | (at_builtin; refine wpList_append_own_at _ rfl (.tmp 57) (.tmp 59) 37 rfl w.heap.size 41 i0 (.agg #[.string ⟨#[]⟩, .string ⟨#[]⟩, .string ⟨#[]⟩]) 3 48 Tryz.underlying37 HI.out HZ0.out HZ1.out HZ2.out rfl (by decide) _ L.length _ rfl (own_belowK HST.out.own (stpA HB4.out _) (Nat.le_refl _)) ⟨w4.heap.size, 0, none⟩ 1 1 [.string x2, .string y2, .string z2] rfl rfl (new_at (w4) [.string x2, .string y2, .string z2] 41 w4.heap.size (rfl)) (by simp [Value.oneCell']) (by have := HST.out.len; unfold maxLen; omega) (by have := HST.out.len; omega) (by have := HST.out.sz; have := (HB4.out).size; rw [World.size_alloc]; omega) ?_; intro v5 w5 hown5 hgr5 _ _; obtain ⟨A5, c5, rfl⟩ := own_form2 hown5; have HST5 := Lib.hid (HST.out.snoc HTK.out HDQ.out ⟨x2, y2, z2⟩ HAV.out _ HOK.out (HST.out.below.trans ((stpA (HB4.out) _).mono HST.out.sz)) (by have := HST.out.sz; have := (HB4.out).size; rw [World.size_alloc]; omega) HVB.out hown5 hgr5); clear hown5 hgr5)
          | fail)
          go_roundg (gk - 1)
          case measure => omega
          case rel => exact ⟨j + 1, _, _, by omega, by go_num, by rfl, ⟨_, _, by rw [List.length_append]; rfl⟩, HST5.out⟩
        | true =>
          have hae : atE E a = (⟨(lookE E (Ns.nameP a.name).1).1, (Ns.nameP a.name).2, a.value⟩, iq) := by
            obtain ⟨p, hp⟩ := Option.isSome_iff_exists.1 hcq
            obtain ⟨p1, p2⟩ := p
            rw [← hiq]
            unfold atE Ns.nameP
            rw [hp]
          have HAE : Hid ((atE E a).2 = iq) := Lib.hid (by rw [hae])
          have HAV0 : Hid (∀ s nm : ByteArray, s.data.toList = (lookE E (Ns.nameP a.name).1).1 → nm.data.toList = (Ns.nameP a.name).2 → abVal ⟨s, nm, z2⟩ = (atE E a).1) := Lib.hid fun s nm h1 h2 => by rw [hae]; unfold abVal; dsimp only; rw [h1, h2, hz]
          obtain ⟨hq, hhq⟩ : ∃ hq, hasK (L.map abVal) (atE E a).1 = hq := ⟨_, rfl⟩
          have HHQ : Hid (∀ W (s nm : ByteArray), Below wr.heap.size wr W → abVal ⟨s, nm, z2⟩ = (atE E a).1 → Calls Tryz.prog 43 #[.slice A1 L.length c1, .agg #[.string s, .string nm, .string z2]] W fun e w' => e = .returned (.bool hq) ∧ Below W.heap.size W w') := Lib.hid fun W s nm hW h1 => HHAS.out W s nm z2 hW hq (by rw [← hhq, ← h1]; rfl)
          cases ok with
          | false =>
            have HOK : Hid ((((false : Bool) && (atE E a).2) && !hasK (L.map abVal) (atE E a).1) = false) := Lib.hid (by rw [HAE.out, hhq]; simp)
            clear hst hx hy hz c0 c1' c2 htk ha hnm hdq hjl hbB hrw hiq hys2 HXD HYD HZD hae hcq hhq HHAS HAE
            go_wp2_with (first
          | (refine wpList_store_row rfl _ _ _ rfl wr.heap.size #[.string x2, .string y2, .string z2] rfl rfl 41 #[.string ⟨#[]⟩, .string ⟨#[]⟩, .string ⟨#[]⟩] (heap_alloc_new _ _) sizeAt rfl (by simp [Value.oneCell']) ?_; rw [World.setRow_alloc_new, hW1])
          | (go_at_call 38; (with_reducible refine (HDC.out).mono ?_); rintro e2 w2 ⟨rfl, hb2⟩; have HB2 := Lib.hid (stp HB1.out hb2); have HX2 := Lib.hid (kept_heap HX1.out hb2); have k20 := cellV w2 _ 0 _ _ _ HX2.out; have k21 := cellV w2 _ 1 _ _ _ HX2.out; clear hb2)
          | (go_at_call 42; (with_reducible refine (HCT.out w2).mono ?_); rintro e3 w3 ⟨rfl, hb3⟩; have HB3 := Lib.hid (stp HB2.out hb3); have HX3 := Lib.hid (kept_heap HX2.out hb3); have k30 := cellV w3 _ 0 _ _ _ HX3.out; have k31 := cellV w3 _ 1 _ _ _ HX3.out; have k32 := cellV w3 _ 2 _ _ _ HX3.out; clear hb3)
          | (refine wpList_load_row rfl _ _ rfl wr.heap.size rfl 41 #[.string x2, .string y2, .string z2] (0, 0) _ HX1.out Tryz.underlying41 rfl sizeAt ?_)
          | (go_at_call 41; (with_reducible refine (HFM.out w3 (HBW.out.trans (HB3.out.mono HST.out.sz))).mono ?_); rintro e4 w4 ⟨⟨s4, nm4, rfl, hs4, hnm4⟩, hb4⟩; have HAV := Lib.hid (HAV0.out s4 nm4 hs4 hnm4); have HB4 := Lib.hid (stp HB3.out hb4); have HX4 := Lib.hid (kept_heap HX3.out hb4); have k40 := cellV w4 _ 0 _ _ _ HX4.out; have f40 := freeV w4 _ 0 _ _ HX4.out; have HX45 : Hid ((w4.setCell ⟨wr.heap.size, 0, none⟩ (.string s4)).heap[wr.heap.size]? = some (.cells #[.string s4, .string y2, .string z2] 41 (0, 0))) := Lib.hid (heap_setCell_same w4 wr.heap.size 0 _ _ (.string s4) HX4.out); have k41 := cellV (w4.setCell ⟨wr.heap.size, 0, none⟩ (.string s4)) _ 1 _ _ _ HX45.out; have f41 := freeV (w4.setCell ⟨wr.heap.size, 0, none⟩ (.string s4)) _ 1 _ _ HX45.out; have HX5 : Hid (((w4.setCell ⟨wr.heap.size, 0, none⟩ (.string s4)).setCell ⟨wr.heap.size, 1, none⟩ (.string nm4)).heap[wr.heap.size]? = some (.cells #[.string s4, .string nm4, .string z2] 41 (0, 0))) := Lib.hid (heap_setCell_same (w4.setCell ⟨wr.heap.size, 0, none⟩ (.string s4)) wr.heap.size 1 _ _ (.string nm4) HX45.out); have HB5 : Hid (Below wr.heap.size wr ((w4.setCell ⟨wr.heap.size, 0, none⟩ (.string s4)).setCell ⟨wr.heap.size, 1, none⟩ (.string nm4))) := Lib.hid ((HB4.out.setCell (p := ⟨wr.heap.size, 0, none⟩) (Nat.le_refl _) (.string s4)).setCell (p := ⟨wr.heap.size, 1, none⟩) (Nat.le_refl _) (.string nm4)); have k50 := cellV ((w4.setCell ⟨wr.heap.size, 0, none⟩ (.string s4)).setCell ⟨wr.heap.size, 1, none⟩ (.string nm4)) _ 0 _ _ _ HX5.out; have k51 := cellV ((w4.setCell ⟨wr.heap.size, 0, none⟩ (.string s4)).setCell ⟨wr.heap.size, 1, none⟩ (.string nm4)) _ 1 _ _ _ HX5.out; have k52 := cellV ((w4.setCell ⟨wr.heap.size, 0, none⟩ (.string s4)).setCell ⟨wr.heap.size, 1, none⟩ (.string nm4)) _ 2 _ _ _ HX5.out; clear hs4 hnm4 hb4)
          | (refine wpList_load_row rfl _ _ rfl wr.heap.size rfl 41 #[.string s4, .string nm4, .string z2] (0, 0) _ HX5.out Tryz.underlying41 rfl sizeAt ?_)
          | (at_builtin; refine wpList_append_own_at _ rfl (.tmp 57) (.tmp 59) 37 rfl w.heap.size 41 i0 (.agg #[.string ⟨#[]⟩, .string ⟨#[]⟩, .string ⟨#[]⟩]) 3 48 Tryz.underlying37 HI.out HZ0.out HZ1.out HZ2.out rfl (by decide) _ L.length _ rfl (own_belowK HST.out.own (stpA HB5.out _) (Nat.le_refl _)) ⟨w4.heap.size, 0, none⟩ 1 1 [.string s4, .string nm4, .string z2] rfl rfl (new_at (((w4.setCell ⟨wr.heap.size, 0, none⟩ (.string s4)).setCell ⟨wr.heap.size, 1, none⟩ (.string nm4))) [.string s4, .string nm4, .string z2] 41 w4.heap.size (by rw [World.size_setCell, World.size_setCell])) (by simp [Value.oneCell']) (by have := HST.out.len; unfold maxLen; omega) (by have := HST.out.len; omega) (by have := HST.out.sz; have := (HB5.out).size; rw [World.size_alloc]; omega) ?_; intro v5 w5 hown5 hgr5 _ _; obtain ⟨A5, c5, rfl⟩ := own_form2 hown5; have HST5 := Lib.hid (HST.out.snoc HTK.out HDQ.out ⟨s4, nm4, z2⟩ HAV.out _ HOK.out (HST.out.below.trans ((stpA (HB5.out) _).mono HST.out.sz)) (by have := HST.out.sz; have := (HB5.out).size; rw [World.size_alloc]; omega) HVB.out hown5 hgr5); clear hown5 hgr5)
          | fail)
            go_roundg (gk - 1)
            case measure => omega
            case rel => exact ⟨j + 1, _, _, by omega, by go_num, by rfl, ⟨_, _, by rw [List.length_append]; rfl⟩, HST5.out⟩
          | true =>
            cases iq with
            | false =>
              have HOK : Hid ((((true : Bool) && (atE E a).2) && !hasK (L.map abVal) (atE E a).1) = false) := Lib.hid (by rw [HAE.out, hhq]; simp)
              clear hst hx hy hz c0 c1' c2 htk ha hnm hdq hjl hbB hrw hiq hys2 HXD HYD HZD hae hcq hhq HHAS HAE
              go_wp2_with (first
          | (refine wpList_store_row rfl _ _ _ rfl wr.heap.size #[.string x2, .string y2, .string z2] rfl rfl 41 #[.string ⟨#[]⟩, .string ⟨#[]⟩, .string ⟨#[]⟩] (heap_alloc_new _ _) sizeAt rfl (by simp [Value.oneCell']) ?_; rw [World.setRow_alloc_new, hW1])
          | (go_at_call 38; (with_reducible refine (HDC.out).mono ?_); rintro e2 w2 ⟨rfl, hb2⟩; have HB2 := Lib.hid (stp HB1.out hb2); have HX2 := Lib.hid (kept_heap HX1.out hb2); have k20 := cellV w2 _ 0 _ _ _ HX2.out; have k21 := cellV w2 _ 1 _ _ _ HX2.out; clear hb2)
          | (go_at_call 42; (with_reducible refine (HCT.out w2).mono ?_); rintro e3 w3 ⟨rfl, hb3⟩; have HB3 := Lib.hid (stp HB2.out hb3); have HX3 := Lib.hid (kept_heap HX2.out hb3); have k30 := cellV w3 _ 0 _ _ _ HX3.out; have k31 := cellV w3 _ 1 _ _ _ HX3.out; have k32 := cellV w3 _ 2 _ _ _ HX3.out; clear hb3)
          | (refine wpList_load_row rfl _ _ rfl wr.heap.size rfl 41 #[.string x2, .string y2, .string z2] (0, 0) _ HX1.out Tryz.underlying41 rfl sizeAt ?_)
          | (go_at_call 41; (with_reducible refine (HFM.out w3 (HBW.out.trans (HB3.out.mono HST.out.sz))).mono ?_); rintro e4 w4 ⟨⟨s4, nm4, rfl, hs4, hnm4⟩, hb4⟩; have HAV := Lib.hid (HAV0.out s4 nm4 hs4 hnm4); have HB4 := Lib.hid (stp HB3.out hb4); have HX4 := Lib.hid (kept_heap HX3.out hb4); have k40 := cellV w4 _ 0 _ _ _ HX4.out; have f40 := freeV w4 _ 0 _ _ HX4.out; have HX45 : Hid ((w4.setCell ⟨wr.heap.size, 0, none⟩ (.string s4)).heap[wr.heap.size]? = some (.cells #[.string s4, .string y2, .string z2] 41 (0, 0))) := Lib.hid (heap_setCell_same w4 wr.heap.size 0 _ _ (.string s4) HX4.out); have k41 := cellV (w4.setCell ⟨wr.heap.size, 0, none⟩ (.string s4)) _ 1 _ _ _ HX45.out; have f41 := freeV (w4.setCell ⟨wr.heap.size, 0, none⟩ (.string s4)) _ 1 _ _ HX45.out; have HX5 : Hid (((w4.setCell ⟨wr.heap.size, 0, none⟩ (.string s4)).setCell ⟨wr.heap.size, 1, none⟩ (.string nm4)).heap[wr.heap.size]? = some (.cells #[.string s4, .string nm4, .string z2] 41 (0, 0))) := Lib.hid (heap_setCell_same (w4.setCell ⟨wr.heap.size, 0, none⟩ (.string s4)) wr.heap.size 1 _ _ (.string nm4) HX45.out); have HB5 : Hid (Below wr.heap.size wr ((w4.setCell ⟨wr.heap.size, 0, none⟩ (.string s4)).setCell ⟨wr.heap.size, 1, none⟩ (.string nm4))) := Lib.hid ((HB4.out.setCell (p := ⟨wr.heap.size, 0, none⟩) (Nat.le_refl _) (.string s4)).setCell (p := ⟨wr.heap.size, 1, none⟩) (Nat.le_refl _) (.string nm4)); have k50 := cellV ((w4.setCell ⟨wr.heap.size, 0, none⟩ (.string s4)).setCell ⟨wr.heap.size, 1, none⟩ (.string nm4)) _ 0 _ _ _ HX5.out; have k51 := cellV ((w4.setCell ⟨wr.heap.size, 0, none⟩ (.string s4)).setCell ⟨wr.heap.size, 1, none⟩ (.string nm4)) _ 1 _ _ _ HX5.out; have k52 := cellV ((w4.setCell ⟨wr.heap.size, 0, none⟩ (.string s4)).setCell ⟨wr.heap.size, 1, none⟩ (.string nm4)) _ 2 _ _ _ HX5.out; clear hs4 hnm4 hb4)
          | (refine wpList_load_row rfl _ _ rfl wr.heap.size rfl 41 #[.string s4, .string nm4, .string z2] (0, 0) _ HX5.out Tryz.underlying41 rfl sizeAt ?_)
          | (at_builtin; refine wpList_append_own_at _ rfl (.tmp 57) (.tmp 59) 37 rfl w.heap.size 41 i0 (.agg #[.string ⟨#[]⟩, .string ⟨#[]⟩, .string ⟨#[]⟩]) 3 48 Tryz.underlying37 HI.out HZ0.out HZ1.out HZ2.out rfl (by decide) _ L.length _ rfl (own_belowK HST.out.own (stpA HB5.out _) (Nat.le_refl _)) ⟨w4.heap.size, 0, none⟩ 1 1 [.string s4, .string nm4, .string z2] rfl rfl (new_at (((w4.setCell ⟨wr.heap.size, 0, none⟩ (.string s4)).setCell ⟨wr.heap.size, 1, none⟩ (.string nm4))) [.string s4, .string nm4, .string z2] 41 w4.heap.size (by rw [World.size_setCell, World.size_setCell])) (by simp [Value.oneCell']) (by have := HST.out.len; unfold maxLen; omega) (by have := HST.out.len; omega) (by have := HST.out.sz; have := (HB5.out).size; rw [World.size_alloc]; omega) ?_; intro v5 w5 hown5 hgr5 _ _; obtain ⟨A5, c5, rfl⟩ := own_form2 hown5; have HST5 := Lib.hid (HST.out.snoc HTK.out HDQ.out ⟨s4, nm4, z2⟩ HAV.out _ HOK.out (HST.out.below.trans ((stpA (HB5.out) _).mono HST.out.sz)) (by have := HST.out.sz; have := (HB5.out).size; rw [World.size_alloc]; omega) HVB.out hown5 hgr5); clear hown5 hgr5)
          | fail)
              go_roundg (gk - 1)
              case measure => omega
              case rel => exact ⟨j + 1, _, _, by omega, by go_num, by rfl, ⟨_, _, by rw [List.length_append]; rfl⟩, HST5.out⟩
            | true =>
              have HOK : Hid ((((true : Bool) && (atE E a).2) && !hasK (L.map abVal) (atE E a).1) = (!hq)) := Lib.hid (by rw [HAE.out, hhq]; simp)
              clear hst hx hy hz c0 c1' c2 htk ha hnm hdq hjl hbB hrw hiq hys2 HXD HYD HZD hae hcq hhq HHAS HAE
              go_wp2_with (first
          | (refine wpList_store_row rfl _ _ _ rfl wr.heap.size #[.string x2, .string y2, .string z2] rfl rfl 41 #[.string ⟨#[]⟩, .string ⟨#[]⟩, .string ⟨#[]⟩] (heap_alloc_new _ _) sizeAt rfl (by simp [Value.oneCell']) ?_; rw [World.setRow_alloc_new, hW1])
          | (go_at_call 38; (with_reducible refine (HDC.out).mono ?_); rintro e2 w2 ⟨rfl, hb2⟩; have HB2 := Lib.hid (stp HB1.out hb2); have HX2 := Lib.hid (kept_heap HX1.out hb2); have k20 := cellV w2 _ 0 _ _ _ HX2.out; have k21 := cellV w2 _ 1 _ _ _ HX2.out; clear hb2)
          | (go_at_call 42; (with_reducible refine (HCT.out w2).mono ?_); rintro e3 w3 ⟨rfl, hb3⟩; have HB3 := Lib.hid (stp HB2.out hb3); have HX3 := Lib.hid (kept_heap HX2.out hb3); have k30 := cellV w3 _ 0 _ _ _ HX3.out; have k31 := cellV w3 _ 1 _ _ _ HX3.out; have k32 := cellV w3 _ 2 _ _ _ HX3.out; clear hb3)
          | (refine wpList_load_row rfl _ _ rfl wr.heap.size rfl 41 #[.string x2, .string y2, .string z2] (0, 0) _ HX1.out Tryz.underlying41 rfl sizeAt ?_)
          | (go_at_call 41; (with_reducible refine (HFM.out w3 (HBW.out.trans (HB3.out.mono HST.out.sz))).mono ?_); rintro e4 w4 ⟨⟨s4, nm4, rfl, hs4, hnm4⟩, hb4⟩; have HAV := Lib.hid (HAV0.out s4 nm4 hs4 hnm4); have HB4 := Lib.hid (stp HB3.out hb4); have HX4 := Lib.hid (kept_heap HX3.out hb4); have k40 := cellV w4 _ 0 _ _ _ HX4.out; have f40 := freeV w4 _ 0 _ _ HX4.out; have HX45 : Hid ((w4.setCell ⟨wr.heap.size, 0, none⟩ (.string s4)).heap[wr.heap.size]? = some (.cells #[.string s4, .string y2, .string z2] 41 (0, 0))) := Lib.hid (heap_setCell_same w4 wr.heap.size 0 _ _ (.string s4) HX4.out); have k41 := cellV (w4.setCell ⟨wr.heap.size, 0, none⟩ (.string s4)) _ 1 _ _ _ HX45.out; have f41 := freeV (w4.setCell ⟨wr.heap.size, 0, none⟩ (.string s4)) _ 1 _ _ HX45.out; have HX5 : Hid (((w4.setCell ⟨wr.heap.size, 0, none⟩ (.string s4)).setCell ⟨wr.heap.size, 1, none⟩ (.string nm4)).heap[wr.heap.size]? = some (.cells #[.string s4, .string nm4, .string z2] 41 (0, 0))) := Lib.hid (heap_setCell_same (w4.setCell ⟨wr.heap.size, 0, none⟩ (.string s4)) wr.heap.size 1 _ _ (.string nm4) HX45.out); have HB5 : Hid (Below wr.heap.size wr ((w4.setCell ⟨wr.heap.size, 0, none⟩ (.string s4)).setCell ⟨wr.heap.size, 1, none⟩ (.string nm4))) := Lib.hid ((HB4.out.setCell (p := ⟨wr.heap.size, 0, none⟩) (Nat.le_refl _) (.string s4)).setCell (p := ⟨wr.heap.size, 1, none⟩) (Nat.le_refl _) (.string nm4)); have k50 := cellV ((w4.setCell ⟨wr.heap.size, 0, none⟩ (.string s4)).setCell ⟨wr.heap.size, 1, none⟩ (.string nm4)) _ 0 _ _ _ HX5.out; have k51 := cellV ((w4.setCell ⟨wr.heap.size, 0, none⟩ (.string s4)).setCell ⟨wr.heap.size, 1, none⟩ (.string nm4)) _ 1 _ _ _ HX5.out; have k52 := cellV ((w4.setCell ⟨wr.heap.size, 0, none⟩ (.string s4)).setCell ⟨wr.heap.size, 1, none⟩ (.string nm4)) _ 2 _ _ _ HX5.out; clear hs4 hnm4 hb4)
          | (refine wpList_load_row rfl _ _ rfl wr.heap.size rfl 41 #[.string s4, .string nm4, .string z2] (0, 0) _ HX5.out Tryz.underlying41 rfl sizeAt ?_)
          | (go_at_call 43; (with_reducible refine (HHQ.out ((w4.setCell ⟨wr.heap.size, 0, none⟩ (.string s4)).setCell ⟨wr.heap.size, 1, none⟩ (.string nm4)) s4 nm4 HB5.out HAV.out).mono ?_); rintro e6 w6 ⟨rfl, hb6⟩; have HB6 := Lib.hid (stp HB5.out hb6); have HX6 := Lib.hid (kept_heap HX5.out hb6); clear hb6)
          | (refine wpList_load_row rfl _ _ rfl wr.heap.size rfl 41 #[.string s4, .string nm4, .string z2] (0, 0) _ HX6.out Tryz.underlying41 rfl sizeAt ?_)
          | (at_builtin; refine wpList_append_own_at _ rfl (.tmp 57) (.tmp 59) 37 rfl w.heap.size 41 i0 (.agg #[.string ⟨#[]⟩, .string ⟨#[]⟩, .string ⟨#[]⟩]) 3 48 Tryz.underlying37 HI.out HZ0.out HZ1.out HZ2.out rfl (by decide) _ L.length _ rfl (own_belowK HST.out.own (stpA HB6.out _) (Nat.le_refl _)) ⟨w6.heap.size, 0, none⟩ 1 1 [.string s4, .string nm4, .string z2] rfl rfl (new_at (w6) [.string s4, .string nm4, .string z2] 41 w6.heap.size (rfl)) (by simp [Value.oneCell']) (by have := HST.out.len; unfold maxLen; omega) (by have := HST.out.len; omega) (by have := HST.out.sz; have := (HB6.out).size; rw [World.size_alloc]; omega) ?_; intro v5 w5 hown5 hgr5 _ _; obtain ⟨A5, c5, rfl⟩ := own_form2 hown5; have HST5 := Lib.hid (HST.out.snoc HTK.out HDQ.out ⟨s4, nm4, z2⟩ HAV.out _ HOK.out (HST.out.below.trans ((stpA (HB6.out) _).mono HST.out.sz)) (by have := HST.out.sz; have := (HB6.out).size; rw [World.size_alloc]; omega) HVB.out hown5 hgr5); clear hown5 hgr5)
          | fail)
              go_roundg (gk - 1)
              case measure => omega
              case rel => exact ⟨j + 1, _, _, by omega, by go_num, by rfl, ⟨_, _, by rw [List.length_append]; rfl⟩, HST5.out⟩
    · obtain rfl : j = n := by omega
      have hjj : ¬ ((j : Int) < (j : Int)) := by omega
      have hfold := hst.fold
      rw [← HN.out, List.take_length, foldR_eq E l [] ok0 HDO.out] at hfold
      injection hfold with hf1 hf2
      obtain rfl : ok = okq := by rw [← HOKQ.out, ← hf2, ← HOK0.out]; rfl
      have HF1 := Lib.hid hf1.symm
      have HGr := Lib.hid (kept_heap HG.out hst.below)
      have hgl : g < w.heap.size := Nat.lt_trans HGB.out HBL.out
      have HX1 : Hid ((wr.setCell ⟨g, 1, none⟩ (.string s1)).heap[g]? = some (.cells #[kv, .string s1, .string y, .slice A j c, .string z, mv] 39 (0, 0))) := Lib.hid (heap_setCell_same wr g 1 _ _ (.string s1) HGr.out)
      have HX2 : Hid (((wr.setCell ⟨g, 1, none⟩ (.string s1)).setCell ⟨g, 2, none⟩ (.string nm1)).heap[g]? = some (.cells #[kv, .string s1, .string nm1, .slice A j c, .string z, mv] 39 (0, 0))) := Lib.hid (heap_setCell_same (wr.setCell ⟨g, 1, none⟩ (.string s1)) g 2 _ _ (.string nm1) HX1.out)
      have HX3 : Hid ((((wr.setCell ⟨g, 1, none⟩ (.string s1)).setCell ⟨g, 2, none⟩ (.string nm1)).setCell ⟨g, 3, none⟩ (.slice A1 L.length c1)).heap[g]? = some (.cells #[kv, .string s1, .string nm1, .slice A1 L.length c1, .string z, mv] 39 (0, 0))) := Lib.hid (heap_setCell_same ((wr.setCell ⟨g, 1, none⟩ (.string s1)).setCell ⟨g, 2, none⟩ (.string nm1)) g 3 _ _ (.slice A1 L.length c1) HX2.out)
      have k1 := cellV wr g 1 _ _ _ HGr.out
      have f1 := freeV wr g 1 _ _ HGr.out
      have k2 := cellV (wr.setCell ⟨g, 1, none⟩ (.string s1)) g 2 _ _ _ HX1.out
      have f2 := freeV (wr.setCell ⟨g, 1, none⟩ (.string s1)) g 2 _ _ HX1.out
      have k3 := cellV ((wr.setCell ⟨g, 1, none⟩ (.string s1)).setCell ⟨g, 2, none⟩ (.string nm1)) g 3 _ _ _ HX2.out
      have f3 := freeV ((wr.setCell ⟨g, 1, none⟩ (.string s1)).setCell ⟨g, 2, none⟩ (.string nm1)) g 3 _ _ HX2.out
      have HPOST : Hid (∃ (A' : Option Addr) (c' : Nat) (L' : List AB), L'.map abVal = (atsE E [] l).1 ∧ (((wr.setCell ⟨g, 1, none⟩ (.string s1)).setCell ⟨g, 2, none⟩ (.string nm1)).setCell ⟨g, 3, none⟩ (.slice A1 L.length c1)).ownsRow w.heap.size 41 3 (.slice A' L'.length c') L'.length (L'.flatMap abCells) ∧ (((wr.setCell ⟨g, 1, none⟩ (.string s1)).setCell ⟨g, 2, none⟩ (.string nm1)).setCell ⟨g, 3, none⟩ (.slice A1 L.length c1)).heap[g]? = some (.cells #[kv, .string s1, .string nm1, .slice A' L'.length c', .string z, mv] 39 (0, 0)) ∧ Below g w (((wr.setCell ⟨g, 1, none⟩ (.string s1)).setCell ⟨g, 2, none⟩ (.string nm1)).setCell ⟨g, 3, none⟩ (.slice A1 L.length c1)) ∧ w.heap.size ≤ (((wr.setCell ⟨g, 1, none⟩ (.string s1)).setCell ⟨g, 2, none⟩ (.string nm1)).setCell ⟨g, 3, none⟩ (.slice A1 L.length c1)).heap.size ∧ MapD (((wr.setCell ⟨g, 1, none⟩ (.string s1)).setCell ⟨g, 2, none⟩ (.string nm1)).setCell ⟨g, 3, none⟩ (.slice A1 L.length c1)) b D) := Lib.hid ⟨A1, c1, L, HF1.out, own_setCell (own_setCell (own_setCell hst.own g 1 hgl _) g 2 hgl _) g 3 hgl _, HX3.out, (((hst.below.mono (Nat.le_of_lt hgl)).setCell (p := ⟨g, 1, none⟩) (Nat.le_refl _) _).setCell (p := ⟨g, 2, none⟩) (Nat.le_refl _) _).setCell (p := ⟨g, 3, none⟩) (Nat.le_refl _) _, by rw [World.size_setCell, World.size_setCell, World.size_setCell]; exact hst.sz, HM.out.kept (by rw [set_other _ _ _ _ _ (Nat.ne_of_gt HGB.out), set_other _ _ _ _ _ (Nat.ne_of_gt HGB.out), set_other _ _ _ _ _ (Nat.ne_of_gt HGB.out)]; exact hst.below.block b HBL.out)⟩
      clear hst hf1 hf2
      go_wp2_with fail
      go_ret
      obtain ⟨A', c', L', p1, p2, p3, p4, p5, p6⟩ := HPOST.out
      exact ⟨s1, nm1, A', c', L', by rw [HOKQ.out]; rfl, HS1.out, HNM1.out, p1, p2, p3, p4, p5, p6⟩
end Hx
end Go.Proofs.YteobcohjikjalaaGreatDoor
