/-
  Texts of one seat, put together: SrbA.
-/
import Derived.Test.YteobcohjikjalaaGreatDoorSp18
import Derived.Test.YteobcohjikjalaaGreatDoorSp29
import Derived.BigQuiet
import Derived.Deep.QuietTactic
set_option linter.unusedSimpArgs false
namespace Go.Proofs.YteobcohjikjalaaGreatDoor
open Go.RowKit
namespace Hx
open Lx Tr Tx Nmb Es Ns
set_option maxRecDepth 100000
set_option maxHeartbeats 16000000
set_option linter.unusedVariables false
set_option linter.unusedSimpArgs false
def zNd6 : Array Value := #[.int .u8 0, .string ⟨#[]⟩, .string ⟨#[]⟩, .slice none 0 0, .string ⟨#[]⟩, .int .i64 0]
theorem oneNd6 (k : Int) (x y z : ByteArray) (A : Option Addr) (n c : Nat) (m : Int) : (#[Value.int .u8 k, .string x, .string y, .slice A n c, .string z, .int .i64 m] : Array Value).all (·.oneCell') = true := by simp [Value.oneCell']
structure RnSt (E : List (List At)) (ok0 : Bool) (l : List At) (j G : Nat) (s u : ByteArray) (many : Int) (W : World) (L : List AB) (ok : Bool) (A : Option Addr) (c : Nat) (wr : World) : Prop where
  fold : (l.take j).foldl (stepN E) ([], ok0) = (L.map abVal, ok)
  own : wr.ownsRow (G + 1) 41 3 (.slice A L.length c) L.length (L.flatMap abCells)
  box : wr.heap[G]? = some (.cells #[.int .u8 1, .string s, .string u, .slice A L.length c, .string ⟨#[]⟩, .int .i64 many] 39 (0, 0))
  below : Below G W wr
variable {E : List (List At)} {ok0 ok : Bool} {l : List At} {j G : Nat} {s u : ByteArray} {many : Int} {W wr w' : World} {L : List AB} {A : Option Addr} {c : Nat}
theorem RnSt.len (h : RnSt E ok0 l j G s u many W L ok A c wr) : L.length ≤ j := by
  have := foldN_len E (l.take j) ([], ok0)
  rw [h.fold, List.length_map, List.length_take] at this
  simp at this
  omega
theorem RnSt.lt (h : RnSt E ok0 l j G s u many W L ok A c wr) : G < wr.heap.size := lt_heap h.box
theorem RnSt.skip (h : RnSt E ok0 l j G s u many W L ok A c wr) {a : At} (ha : l.take (j + 1) = l.take j ++ [a]) {p : List UInt8} (hd : decl a.name = some p) (q : Bool) (hq : (ok && rightD p a.value) = q) (hb : Below wr.heap.size wr w') : RnSt E ok0 l (j + 1) G s u many W L q A c w' := by
  refine ⟨?_, own_belowK h.own hb (Nat.le_refl _), kept_heap h.box hb, h.below.trans (hb.mono (Nat.le_of_lt h.lt))⟩
  rw [ha, List.foldl_append, h.fold]
  show stepN E (L.map abVal, ok) a = _
  unfold stepN
  rw [hd]
  dsimp only
  rw [hq]
def RnodeTo (E : List (List At)) (x : Nd) (w : World) (e : Ending) (w' : World) : Prop := ∃ (s u : ByteArray) (A : Option Addr) (c : Nat) (L : List AB) (q : Bool) (g : Nat), e = .returned (.tuple #[.agg #[.int .u8 1, .string s, .string u, .slice A L.length c, .string ⟨#[]⟩, .int .i64 x.many], .bool q]) ∧
  ndE E x = (⟨1, s.data.toList, u.data.toList, L.map abVal, [], x.many⟩, q) ∧ w.heap.size ≤ g ∧ w'.ownsRow g 41 3 (.slice A L.length c) L.length (L.flatMap abCells) ∧ Below w.heap.size w w'
theorem parts_any (y : ByteArray) (W : World) (hm : y.size ≤ 1000000) : ∃ (a b : ByteArray) (q : Bool), Ns.nameP y.data.toList = (a.data.toList, b.data.toList) ∧ Calls Tryz.prog 65 #[.string y] W fun e w' => e = .returned (.tuple #[.string a, .string b, .bool q]) ∧ Below W.heap.size W w' := by
  unfold Ns.nameP
  cases hc : cutC y.data.toList with
  | none =>
    refine ⟨⟨#[]⟩, y, false, rfl, (rparts_none y W hm hc).mono ?_⟩
    rintro e w' ⟨rfl, n, rfl⟩
    exact ⟨rfl, bel_drewN (Below.refl _ _) n⟩
  | some ab =>
    obtain ⟨a, b⟩ := ab
    obtain ⟨a, rfl⟩ : ∃ s : ByteArray, s.data.toList = a := ⟨⟨a.toArray⟩, by simp⟩
    obtain ⟨b, rfl⟩ : ∃ s : ByteArray, s.data.toList = b := ⟨⟨b.toArray⟩, by simp⟩
    refine ⟨a, b, true, rfl, (rparts_some y a b W hm hc).mono ?_⟩
    rintro e w' ⟨rfl, n, rfl⟩
    exact ⟨rfl, bel_drewN (Below.refl _ _) n⟩
theorem RnSt.snoc (h : RnSt E ok0 l j G s u many W L ok A c wr) {a : At} (ha : l.take (j + 1) = l.take j ++ [a]) (hd : decl a.name = none) (b : AB) (hb : abVal b = (atE E a).1) (q : Bool) (hq : ((ok && (atE E a).2) && !hasK (L.map abVal) (atE E a).1) = q) {w8 w9 : World} {A' : Option Addr} {c' : Nat} (h8 : Below wr.heap.size wr w8) (hgr : w8.grownBy w9 (Value.slice A L.length c).ownBlock) (hown : w9.ownsRow (G + 1) 41 3 (.slice A' (L.length + 1) c') (L.length + 1) (L.flatMap abCells ++ abCells b)) :
    RnSt E ok0 l (j + 1) G s u many W (L ++ [b]) q A' c' (w9.setCell ⟨G, 3, none⟩ (.slice A' (L.length + 1) c')) := by
  have hlt := h.lt
  have hbk : Below (G + 1) wr w9 := (h8.mono hlt).grown hgr (by have := h8.size; omega) (fun g hg => (h.own.lt g hg).1)
  have hg9 := (hbk.block G (Nat.lt_succ_self _)).trans h.box
  refine ⟨?_, ?_, ?_, h.below.trans ((hbk.mono (Nat.le_succ _)).setCell (p := ⟨G, 3, none⟩) (Nat.le_refl _) _)⟩
  · rw [ha, List.foldl_append, h.fold]
    show stepN E (L.map abVal, ok) a = _
    unfold stepN
    rw [hd]
    dsimp only
    rw [hq, List.map_append, List.map_cons, List.map_nil, hb]
  · rw [List.length_append, List.flatMap_append, List.flatMap_cons, List.flatMap_nil, List.append_nil]
    exact own_setCell hown G 3 (Nat.lt_succ_self _) _
  · rw [List.length_append]
    simpa using heap_setCell_same w9 G 3 _ _ (.slice A' (L.length + 1) c') hg9
theorem RnSt.box9 (h : RnSt E ok0 l j G s u many W L ok A c wr) {w8 w9 : World} (h8 : Below wr.heap.size wr w8) (hgr : w8.grownBy w9 (Value.slice A L.length c).ownBlock) :
    w9.heap[G]? = some (.cells #[.int .u8 1, .string s, .string u, .slice A L.length c, .string ⟨#[]⟩, .int .i64 many] 39 (0, 0)) := by
  have hbk : Below (G + 1) wr w9 := (h8.mono h.lt).grown hgr (by have := h8.size; have := h.lt; omega) (fun g hg => (h.own.lt g hg).1)
  exact (hbk.block G (Nat.lt_succ_self _)).trans h.box
theorem RnSt.at (h : RnSt E ok0 l j G s u many W L ok A c wr) (hb : Below wr.heap.size wr w') {k : Nat} (hk : k < L.length) :
    ∃ (g o : Nat) (x y z : ByteArray), A = some ⟨g, o, none⟩ ∧ L[k]'hk = ⟨x, y, z⟩ ∧ w'.cell? ⟨g, o + k * 3, none⟩ = some (.string x) ∧ w'.cell? ⟨g, o + k * 3 + 1, none⟩ = some (.string y) := by
  have ho := own_belowK h.own hb (Nat.le_refl _)
  obtain ⟨r1, _⟩ := RdS.of_own (C := AtS) (S := fun b => b < w'.heap.size) abCells abVal (fun _ => rfl) (by decide) L (fun b _ => ab_R w' _ b) (fun g hg => (ho.lt g hg).2) ho
  obtain ⟨g, o, x, y, z, e, _, h1, h2, h3, c0, c1, _⟩ := at_at (k := k) r1 (by rw [List.length_map]; exact hk)
  rw [List.getElem_map] at h1 h2 h3
  refine ⟨g, o, x, y, z, e, ?_, c0, c1⟩
  obtain ⟨d, hd⟩ : ∃ d, L[k]'hk = d := ⟨_, rfl⟩
  rw [hd] at h1 h2 h3 ⊢
  obtain ⟨p, q, r⟩ := d
  have e1 : x = p := ba_x h1
  have e2 : y = q := ba_x h2
  have e3 : z = r := ba_x h3
  rw [e1, e2, e3]
theorem hasK_next {L : List AB} {k : Nat} (hk : k < L.length) {x y z : ByteArray} (he : L[k]'hk = ⟨x, y, z⟩) (s n v : ByteArray) (q : Bool) (hq : hasK ((L.take k).map abVal) ⟨s.data.toList, n.data.toList, v.data.toList⟩ = q) (t : Bool) (ht : ((x.toList != s.toList) || (y.toList != n.toList)) = t) :
    hasK ((L.take (k + 1)).map abVal) ⟨s.data.toList, n.data.toList, v.data.toList⟩ = (q || !t) := by
  rw [List.map_take, hasK_take (by rw [List.length_map]; exact hk), ← List.map_take, hq, List.getElem_map, he, ← ht]
  congr 1
  unfold key abVal
  dsimp only
  rw [bne, bne, seq_l, seq_l]
  by_cases h1 : x.data.toList = s.data.toList
  · by_cases h2 : y.data.toList = n.data.toList
    · rw [decide_eq_true h1, decide_eq_true h2, decide_eq_true (by rw [h1, h2])]; rfl
    · rw [decide_eq_true h1, decide_eq_false h2, decide_eq_false (fun e => h2 (Prod.mk.inj e).2)]; rfl
  · rw [decide_eq_false h1, decide_eq_false (fun e => h1 (Prod.mk.inj e).1)]; rfl
theorem rnode11 (A : Option Addr) (p cp : Nat) (v : List Nd) (w : World) (hr : RdB NdS w A v) (hn : v.length = p + 1) (hm : p + 1 ≤ 1000000) (hsm : ∀ x ∈ v, SmallN x) (x : Nd) (hx : v[p]? = some x) :
    Calls Tryz.prog 46 #[.slice A (p + 1) cp] w (RnodeTo (stackE v) x w) := by
  obtain ⟨hpl, hxv⟩ := List.getElem?_eq_some_iff.1 hx
  obtain ⟨i0, hi, hz0, hz1, hz2⟩ := info_parts infoAt
  have HI := Lib.hid hi
  have HZ0 := Lib.hid hz0
  have HZ1 := Lib.hid hz1
  have HZ2 := Lib.hid hz2
  have hss : ∀ x ∈ v, x.attrs.length ≤ 1000000 ∧ ∀ a ∈ x.attrs, a.name.length ≤ 1000000 := fun x h => ⟨(hsm x h).attrs, fun a ha => ((hsm x h).each a ha).2.1⟩
  have hsx := hsm x (by rw [← hxv]; exact List.getElem_mem hpl)
  obtain ⟨b0, off, sx, y, z, A1, c1, rfl, hbB, hin, k0, k1, k2, k3, k4, k5⟩ := nd_at hr hpl
  rw [hxv] at hin k0 k3 k5
  obtain ⟨m, hmm⟩ : ∃ m, x.attrs.length = m := ⟨_, rfl⟩
  have hm6 : m ≤ 1000000 := by rw [← hmm]; exact hsx.attrs
  rw [hmm] at k3
  have hya : y.size ≤ 1000000 := by rw [sz_le hin.name]; exact hsx.name
  obtain ⟨W1, hW1⟩ : ∃ W1, w.alloc (.cells #[.int .u8 0, .string ⟨#[]⟩, .string ⟨#[]⟩, .slice none 0 0, .string ⟨#[]⟩, .int .i64 0] 39) = W1 := ⟨_, rfl⟩
  have hb1 : Below w.heap.size w W1 := by rw [← hW1]; exact stpA (Below.refl _ _) _
  have hg1 : W1.heap[w.heap.size]? = some (.cells zNd6 39 (0, 0)) := by rw [← hW1]; exact heap_alloc_new w _
  have hs1 : W1.heap.size = w.heap.size + 1 := by rw [← hW1, World.size_alloc]
  have HW1 : Hid (w.alloc (.cells #[.int .u8 0, .string ⟨#[]⟩, .string ⟨#[]⟩, .slice none 0 0, .string ⟨#[]⟩, .int .i64 0] 39) = W1) := Lib.hid hW1
  have q0 := (hb1.cell (p := ⟨b0, off + p * 6, none⟩) hbB).trans k0
  have q1 := (hb1.cell (p := ⟨b0, off + p * 6 + 1, none⟩) hbB).trans k1
  have q2 := (hb1.cell (p := ⟨b0, off + p * 6 + 2, none⟩) hbB).trans k2
  have q3 := (hb1.cell (p := ⟨b0, off + p * 6 + 3, none⟩) hbB).trans k3
  have q4 := (hb1.cell (p := ⟨b0, off + p * 6 + 4, none⟩) hbB).trans k4
  have q5 := (hb1.cell (p := ⟨b0, off + p * 6 + 5, none⟩) hbB).trans k5
  have HG1 := Lib.hid hg1
  have HB1 := Lib.hid hb1
  have HS1 := Lib.hid hs1
  have HIN := Lib.hid hin
  have HR := Lib.hid hr
  have HM := Lib.hid hmm
  have HSX := Lib.hid hsx
  have u0 : IntKind.i64.wrap ((p : Int) + 1 - 1) = (p : Int) := by rw [IntWalk.i64_in _ (by omega)]; omega
  have u1 : IntKind.i64.wrap (p : Int) = (p : Int) := IntWalk.i64_in _ (by omega)
  have b1 : (0 : Int) ≤ (p : Int) ∧ (p : Int) < (p : Int) + 1 := by omega
  obtain ⟨u2, u3, f3, hnp, _⟩ := parts_any y w hya
  have HNP := Lib.hid hnp
  have HPT : Hid (∀ W, Calls Tryz.prog 65 #[.string y] W fun e w' => ∃ q : Bool, e = .returned (.tuple #[.string u2, .string u3, .bool q]) ∧ Below W.heap.size W w') := Lib.hid fun W => by
    obtain ⟨a, b, q, h1, h2⟩ := parts_any y W hya
    rw [hnp] at h1
    obtain ⟨e1, e2⟩ := (Prod.mk.injEq _ _ _ _).mp h1
    obtain rfl : u2 = a := ba_x e1
    obtain rfl : u3 = b := ba_x e2
    exact h2.mono fun e w' h => ⟨q, h⟩
  have HDL : Hid (∀ W, Below w.heap.size w W → Calls Tryz.prog 66 #[.slice (some ⟨b0, off, none⟩) (p + 1) cp, .string u2] W (RlookTo (stackE v) u2.data.toList W)) := Lib.hid fun W h => rlook11 _ _ cp v u2 W (hr.on h) hn (by omega) hss
  have HAT : Hid (∀ W (a : AB), Below w.heap.size w W → a.y.size ≤ 1000000 → Calls Tryz.prog 69 #[.slice (some ⟨b0, off, none⟩) (p + 1) cp, .agg #[.string a.x, .string a.y, .string a.z]] W (RatrTo (stackE v) a W)) := Lib.hid fun W a h ha => ratr11 _ _ cp v a W (hr.on h) hn (by omega) hss ha
  clear hi hz0 hz1 hz2 hr hn hm hsm hx hxv hss hin hmm k0 k1 k2 k3 k4 k5 hbB hW1 hb1 hg1 hs1 hsx hpl hnp
  go_enter Tryz.func46, Tryz.ntmps46
  have hW1 := HW1.out
  go_wp2_with (first
    | (refine wpList_store_row rfl _ _ _ rfl W1.heap.size #[.int .u8 (x.kind : Int), .string sx, .string y, .slice A1 m c1, .string z, .int .i64 x.many] rfl rfl 39 zNd6 (heap_alloc_new _ _) sizeNd rfl (oneNd6 _ _ _ _ _ _ _ _) ?_; rw [World.setRow_alloc_new]; obtain ⟨W2, hW2, hr2, hb2⟩ := opnV W1 (.cells #[.int .u8 (x.kind : Int), .string sx, .string y, .slice A1 m c1, .string z, .int .i64 x.many] 39); rw [hW2]; have HB2 := Lib.hid (stp HB1.out hb2); have HR2 := Lib.hid hr2; have HZ2' := Lib.hid (kept_heap HG1.out hb2); have p22 := cellV W2 _ 2 _ _ _ hr2; clear hW2 hr2 hb2 q0 q1 q2 q3 q4 q5)
    | (go_at_call 65; (with_reducible refine (HPT.out _).mono ?_); rintro e3 w3 ⟨f3', rfl, hb3⟩; have HB3 := Lib.hid (stp HB2.out hb3); have HR3 := Lib.hid (kept_heap HR2.out hb3); have HZ3 := Lib.hid (kept_heap HZ2'.out hb3); clear hb3)
    | (go_at_call 66; (with_reducible refine (HDL.out _ HB3.out).mono ?_); rintro e4 w4 ⟨s4, ok0, rfl, hl4, hb4⟩; have HL4 := Lib.hid hl4; have HB4 := Lib.hid (stp HB3.out hb4); have HR4 := Lib.hid (kept_heap HR3.out hb4); have HZ4 := Lib.hid (kept_heap HZ3.out hb4); have p45 := cellV w4 _ 5 _ _ _ HR4.out; clear hl4 hb4)
    | (refine wpList_store_row rfl _ _ _ rfl w4.heap.size #[.int .u8 1, .string s4, .string u3, .slice none 0 0, .string ⟨#[]⟩, .int .i64 x.many] rfl rfl 39 zNd6 (heap_alloc_new _ _) sizeNd rfl (oneNd6 _ _ _ _ _ _ _ _) ?_; rw [World.setRow_alloc_new]; obtain ⟨W5, hW5, hr5, hb5⟩ := opnV w4 (.cells #[.int .u8 1, .string s4, .string u3, .slice none 0 0, .string ⟨#[]⟩, .int .i64 x.many] 39); rw [hW5]; have HB5 := Lib.hid (stp HB4.out hb5); have HR5 := Lib.hid (kept_heap HR4.out hb5); have HZ5 := Lib.hid (kept_heap HZ4.out hb5); have HX5 := Lib.hid hr5; clear hW5 hr5 hb5)
    | fail)
  clear hW1
  go_loopg [9, 11] m (fun gg x9 x11 wr => ∃ (j : Nat) (ok : Bool) (L : List AB) (A2 : Option Addr) (c2 : Nat), j + gg = m ∧ x11 = .int .i64 j ∧ x9 = .bool ok ∧ RnSt (stackE v) ok0 x.attrs j w4.heap.size s4 u3 x.many W5 L ok A2 c2 wr)
  case atStart => exact ⟨0, ok0, [], none, 0, by omega, rfl, rfl, ⟨rfl, World.ownsRow_nil _ _ _ _, HX5.out, Below.refl _ _⟩⟩
  case round =>
    rename Nat => go1
    rename World => wo
    obtain ⟨j, ok, L, A2, c2, hjg, rfl, rfl, hst⟩ := hrel
    have hlen := hst.len
    have HST := Lib.hid hst
    have HBW : Hid (Below w.heap.size w wo) := Lib.hid (HB5.out.trans (hst.below.mono HB4.out.size))
    have HR6 : Hid (wo.heap[W1.heap.size]? = some (.cells #[.int .u8 (x.kind : Int), .string sx, .string y, .slice A1 m c1, .string z, .int .i64 x.many] 39 (0, 0))) := Lib.hid ((hst.below.block _ (lt_heap HR4.out)).trans HR5.out)
    have HZ6 : Hid (wo.heap[w.heap.size]? = some (.cells zNd6 39 (0, 0))) := Lib.hid ((hst.below.block _ (lt_heap HZ4.out)).trans HZ5.out)
    have p63 := cellV wo _ 3 _ _ _ HR6.out
    by_cases hlt : j < m
    · have hjl : j < x.attrs.length := by rw [HM.out]; exact hlt
      obtain ⟨b3, of3, x2, y2, z2, hA, hbB3, hx2, hy2, hz2, k0, k1, k2⟩ := at_at HIN.out.attrs hjl
      obtain ⟨a, ha⟩ : ∃ a, x.attrs[j]'hjl = a := ⟨_, rfl⟩
      have hat := HSX.out.each _ (List.getElem_mem hjl)
      rw [ha] at hx2 hy2 hz2 hat
      have hys2 : y2.size ≤ 1000000 := by rw [sz_le hy2]; exact hat.2.1
      have q1 := (HBW.out.cell (p := ⟨b3, _, none⟩) hbB3).trans k1
      have HC0 : Hid (∀ W, Below wo.heap.size wo W → W.cell? ⟨b3, of3 + j * 3, none⟩ = some (.string x2) ∧ W.cell? ⟨b3, of3 + j * 3 + 1, none⟩ = some (.string y2) ∧ W.cell? ⟨b3, of3 + j * 3 + 2, none⟩ = some (.string z2)) := Lib.hid fun W h =>
        ⟨((stp HBW.out h).cell (p := ⟨b3, _, none⟩) hbB3).trans k0, ((stp HBW.out h).cell (p := ⟨b3, _, none⟩) hbB3).trans k1, ((stp HBW.out h).cell (p := ⟨b3, _, none⟩) hbB3).trans k2⟩
      have htk : x.attrs.take (j + 1) = x.attrs.take j ++ [a] := by rw [List.take_succ_eq_append_getElem hjl, ha]
      have HTK := Lib.hid htk
      have bj : (0 : Int) ≤ (j : Int) ∧ (j : Int) < (m : Int) := by omega
      subst hA
      cases hd : decl a.name with
      | some pf =>
        obtain ⟨pb, rfl⟩ : ∃ s : ByteArray, s.data.toList = pf := ⟨⟨pf.toArray⟩, by simp⟩
        have HDC : Hid (∀ W, Calls Tryz.prog 67 #[.string y2] W fun e w' => e = .returned (.tuple #[.string pb, .bool true]) ∧ Below W.heap.size W w') := Lib.hid fun W => (rdecl11 y2 W hys2).mono fun e w' h => by
          obtain ⟨u, q, rfl, h1, h2, _, n, rfl⟩ := h
          rw [hy2, hd] at h1 h2
          obtain rfl : u = pb := ba_x (h2 _ rfl)
          obtain rfl : q = true := h1
          exact ⟨rfl, bel_drewN (Below.refl _ _) n⟩
        cases ok with
        | false =>
          have HNX : Hid (∀ w', Below wo.heap.size wo w' → RnSt (stackE v) ok0 x.attrs (j + 1) w4.heap.size s4 u3 x.many W5 L false A2 c2 w') := Lib.hid fun w' hb => hst.skip htk hd false rfl hb
          clear hst hlen hjl hbB3 hx2 hy2 hz2 k0 k1 k2 ha hat htk hd hys2
          go_wp2_with (first
            | (go_at_call 67; (with_reducible refine (HDC.out _).mono ?_); rintro e6 w6 ⟨rfl, hb6⟩; have HB6 := Lib.hid hb6; clear hb6)
            | fail)
          go_roundg (go1 - 1)
          case rel => exact ⟨j + 1, false, L, A2, c2, by omega, by go_num, rfl, HNX.out _ HB6.out⟩
          case measure => omega
        | true =>
          obtain ⟨q, hq⟩ : ∃ q, rightD pb.data.toList a.value = q := ⟨_, rfl⟩
          have HRG : Hid (∀ W, Calls Tryz.prog 68 #[.string pb, .string z2] W fun e w' => e = .returned (.bool q) ∧ w' = W) := Lib.hid fun W => rright11 pb z2 W q (by rw [hz2]; exact hq)
          have HNX : Hid (∀ w', Below wo.heap.size wo w' → RnSt (stackE v) ok0 x.attrs (j + 1) w4.heap.size s4 u3 x.many W5 L q A2 c2 w') := Lib.hid fun w' hb => hst.skip htk hd q (by rw [hq]; rfl) hb
          clear hst hlen hjl hbB3 hx2 hy2 hz2 k0 k1 k2 ha hat htk hd hys2 hq
          go_wp2_with (first
            | (go_at_call 67; (with_reducible refine (HDC.out _).mono ?_); rintro e6 w6 ⟨rfl, hb6⟩; have HB6 := Lib.hid hb6; have p73 := cellV w6 _ 3 _ _ _ (kept_heap HR6.out hb6); obtain ⟨r0, r1, r2⟩ := HC0.out _ hb6; clear hb6)
            | (go_at_call 68; (with_reducible refine (HRG.out _).mono ?_); rintro e7 w7 ⟨rfl, rfl⟩)
            | fail)
          go_roundg (go1 - 1)
          case rel => exact ⟨j + 1, q, L, A2, c2, by omega, by go_num, rfl, HNX.out _ HB6.out⟩
          case measure => omega
      | none =>
        have HD := Lib.hid hd
        have HDC : Hid (∀ W, Calls Tryz.prog 67 #[.string y2] W fun e w' => ∃ u : ByteArray, e = .returned (.tuple #[.string u, .bool false]) ∧ Below W.heap.size W w') := Lib.hid fun W => (rdecl11 y2 W hys2).mono fun e w' h => by
          obtain ⟨u, q, rfl, h1, _, _, n, rfl⟩ := h
          rw [hy2, hd] at h1
          obtain rfl : q = false := h1
          exact ⟨u, rfl, bel_drewN (Below.refl _ _) n⟩
        obtain ⟨q7, hq7⟩ : ∃ q7, (atE (stackE v) a).2 = q7 := ⟨_, rfl⟩
        have HAT7 : Hid (∀ W, Below w.heap.size w W → Calls Tryz.prog 69 #[.slice (some ⟨b0, off, none⟩) (p + 1) cp, .agg #[.string x2, .string y2, .string z2]] W fun e w' => ∃ s n : ByteArray, e = .returned (.tuple #[.agg #[.string s, .string n, .string z2], .bool q7]) ∧ abVal ⟨s, n, z2⟩ = (atE (stackE v) a).1 ∧ Below W.heap.size W w') := Lib.hid fun W hW => (HAT.out W ⟨x2, y2, z2⟩ hW hys2).mono fun e w' h => by
          obtain ⟨s, n, q, rfl, h1, h2⟩ := h
          have hae : abVal ⟨x2, y2, z2⟩ = a := by unfold abVal; dsimp only; rw [hx2, hy2, hz2]
          rw [hae] at h1
          obtain rfl : q = q7 := by rw [← hq7, h1]
          exact ⟨s, n, rfl, by rw [h1]; rfl, h2⟩
        have HQ7 := Lib.hid hq7
        have HLN := Lib.hid hlen
        clear hlen hjl hbB3 hx2 hy2 hz2 k0 k1 k2 ha hat htk hd hys2 hq7 hst
        cases ok with
        | false =>
          go_wp2_with (first
            | (go_at_call 67; (with_reducible refine (HDC.out _).mono ?_); rintro e6 w6 ⟨u6, rfl, hb6⟩; have HB6 := Lib.hid hb6; have HR7 := Lib.hid (kept_heap HR6.out hb6); have p73 := cellV w6 _ 3 _ _ _ HR7.out; obtain ⟨r0, r1, r2⟩ := HC0.out _ hb6; clear hb6)
            | (go_at_call 69; (with_reducible refine (HAT7.out _ (stp HBW.out HB6.out)).mono ?_); rintro e7 w7 ⟨s7, n7, rfl, hab7, hb7⟩; have HAB := Lib.hid hab7; have HB7 := Lib.hid (stp HB6.out hb7); clear hb7 hab7)
            | (refine wpList_store_row rfl _ _ _ rfl w7.heap.size #[.string s7, .string n7, .string z2] rfl rfl 41 zAt3 (heap_alloc_new _ _) sizeAt3 rfl (oneAt3 _ _ _) ?_; rw [World.setRow_alloc_new]; obtain ⟨W8, hW8, hr8, hb8⟩ := opnV w7 (.cells #[.string s7, .string n7, .string z2] 41); rw [hW8]; have HB8 := Lib.hid (stp HB7.out hb8); have HX8 := Lib.hid hr8; have HG8 := Lib.hid (kept_heap HST.out.box HB8.out); have p83 := cellV W8 _ 3 _ _ _ HG8.out; clear hW8 hr8 hb8)
            | fail)
          go_loopg [9, 16] L.length (fun gg x9 x16 wr => ∃ (k : Nat) (bk : Bool), k + gg = L.length ∧ x16 = .int .i64 k ∧ x9 = .bool bk ∧ bk = (false && !hasK ((L.take k).map abVal) ⟨s7.data.toList, n7.data.toList, z2.data.toList⟩) ∧ Below W8.heap.size W8 wr)
          case atStart => exact ⟨0, false, by omega, rfl, rfl, by simp [hasK], Below.refl _ _⟩
          case round =>
            rename Nat => go2
            rename World => wq
            obtain ⟨k, bk, hkg, rfl, rfl, hbk, hbq⟩ := hrel
            have HBQ := Lib.hid (stp HB8.out hbq)
            have HB8Q := Lib.hid hbq
            have HBK := Lib.hid hbk
            have p93 := cellV wq _ 3 _ _ _ (kept_heap HG8.out hbq)
            have d0 := cellV wq _ 0 _ _ _ (kept_heap HX8.out hbq)
            have d1 := cellV wq _ 1 _ _ _ (kept_heap HX8.out hbq)
            have HX9 := Lib.hid (kept_heap HX8.out hbq)
            have lnb : (L.length : Int) ≤ 1000000 := by have := HLN.out; omega
            by_cases hlt2 : k < L.length
            · obtain ⟨g9, o9, x9, y9, z9, hA9, he9, t0, t1⟩ := HST.out.at HBQ.out hlt2
              have bk1 : (0 : Int) ≤ (k : Int) ∧ (k : Int) < (L.length : Int) := by omega
              obtain ⟨h0, hh0⟩ : ∃ h0, hasK ((L.take k).map abVal) ⟨s7.data.toList, n7.data.toList, z2.data.toList⟩ = h0 := ⟨_, rfl⟩
              have HNK : Hid (∀ t, ((x9.toList != s7.toList) || (y9.toList != n7.toList)) = t → hasK ((L.take (k + 1)).map abVal) ⟨s7.data.toList, n7.data.toList, z2.data.toList⟩ = (h0 || !t)) := Lib.hid fun t ht => hasK_next hlt2 he9 s7 n7 z2 h0 hh0 t ht
              rw [hh0] at hbk
              cases bk with
              | false =>
                have HN : Hid (false = (false && !hasK ((L.take (k + 1)).map abVal) ⟨s7.data.toList, n7.data.toList, z2.data.toList⟩)) := Lib.hid (by rw [HNK.out _ rfl]; cases h0 <;> first | rfl | (exact absurd hbk (by decide)))
                clear hbk hbq hA9 he9 hh0
                go_wp2_with fail
                go_quiet (fail)
                go_wp2_with fail
                go_roundg (go2 - 1)
                case rel => exact ⟨k + 1, false, by omega, by go_num, rfl, HN.out, below_drewN HB8Q.out _⟩
                case measure => omega
              | true =>
                subst hA9
                by_cases e1 : x9.toList = s7.toList
                · have f1 : (x9.toList != s7.toList) = false := by simpa using e1
                  have f2 : (x9.toList == s7.toList) = true := by simpa using e1
                  by_cases e2 : y9.toList = n7.toList
                  · have f3 : (y9.toList != n7.toList) = false := by simpa using e2
                    have f4 : (y9.toList == n7.toList) = true := by simpa using e2
                    have HN : Hid (false = (false && !hasK ((L.take (k + 1)).map abVal) ⟨s7.data.toList, n7.data.toList, z2.data.toList⟩)) := Lib.hid (by rw [HNK.out _ rfl, f1, f3]; simp)
                    clear hbk hbq he9 hh0 e1 e2
                    go_wp2_with fail
                    go_quiet (fail)
                    go_wp2_with fail
                    go_roundg (go2 - 1)
                    case rel => exact ⟨k + 1, false, by omega, by go_num, rfl, HN.out, below_drewN HB8Q.out _⟩
                    case measure => omega
                  · have f3 : (y9.toList != n7.toList) = true := by simpa using e2
                    have f4 : (y9.toList == n7.toList) = false := by simpa using e2
                    have HN : Hid (true = (false && !hasK ((L.take (k + 1)).map abVal) ⟨s7.data.toList, n7.data.toList, z2.data.toList⟩)) := Lib.hid (by rw [HNK.out _ rfl, f3]; cases h0 <;> first | (exact absurd hbk (by decide)) | simp)
                    clear hbk hbq he9 hh0 e1 e2
                    go_wp2_with fail
                    go_quiet (fail)
                    go_wp2_with fail
                    go_roundg (go2 - 1)
                    case rel => exact ⟨k + 1, true, by omega, by go_num, rfl, HN.out, below_drewN HB8Q.out _⟩
                    case measure => omega
                · have f1 : (x9.toList != s7.toList) = true := by simpa using e1
                  have f2 : (x9.toList == s7.toList) = false := by simpa using e1
                  have HN : Hid (true = (false && !hasK ((L.take (k + 1)).map abVal) ⟨s7.data.toList, n7.data.toList, z2.data.toList⟩)) := Lib.hid (by rw [HNK.out _ rfl, f1]; cases h0 <;> first | (exact absurd hbk (by decide)) | simp)
                  clear hbk hbq he9 hh0 e1
                  go_wp2_with fail
                  go_quiet (fail)
                  go_wp2_with fail
                  go_roundg (go2 - 1)
                  case rel => exact ⟨k + 1, true, by omega, by go_num, rfl, HN.out, below_drewN HB8Q.out _⟩
                  case measure => omega
            · obtain rfl : L.length = k := by omega
              rw [List.take_length] at hbk
              have HQ : Hid (((false && (atE (stackE v) a).2) && !hasK (L.map abVal) (atE (stackE v) a).1) = bk) := Lib.hid (by rw [HQ7.out, ← HAB.out, hbk]; rfl)
              clear hbk hbq
              go_wp2_with (first
                | (refine wpList_load_row rfl _ _ rfl w7.heap.size rfl 41 #[.string s7, .string n7, .string z2] (0, 0) _ HX9.out Tryz.underlying41 rfl sizeAt3 ?_)
                | (at_builtin; refine wpList_append_own_at _ rfl (.tmp 115) (.tmp 117) 37 rfl (w4.heap.size + 1) 41 i0 (.agg #[.string ⟨#[]⟩, .string ⟨#[]⟩, .string ⟨#[]⟩]) 3 48 Tryz.underlying37 HI.out HZ0.out HZ1.out HZ2.out rfl (by decide) _ L.length _ rfl (own_belowK HST.out.own (stpA HBQ.out _) (Nat.le_refl _)) ⟨wq.heap.size, 0, none⟩ 1 1 [.string s7, .string n7, .string z2] rfl rfl (new_at wq [.string s7, .string n7, .string z2] 41 wq.heap.size rfl) (by simp [Value.oneCell']) (by have := HLN.out; unfold maxLen; omega) (by have := HLN.out; omega) (by have := HST.out.lt; have := HBQ.out.size; rw [World.size_alloc]; omega) ?_; intro v5 w9 hown9 hgr9 _ _; obtain ⟨A5, c5, rfl⟩ := own_form2 hown9; have HS9 := Lib.hid (HST.out.snoc HTK.out HD.out ⟨s7, n7, z2⟩ HAB.out bk HQ.out (stpA HBQ.out _) hgr9 hown9); have hx9 := HST.out.box9 (stpA HBQ.out _) hgr9; have p103 := cellV w9 _ 3 _ _ _ hx9; have f103 := freeV w9 _ 3 _ _ hx9; clear hown9 hgr9 hx9)
                | fail)
              go_roundg (go1 - 1)
              case rel => exact ⟨j + 1, bk, L ++ [⟨s7, n7, z2⟩], A5, c5, by omega, by go_num, rfl, HS9.out⟩
              case measure => omega
        | true =>
          cases q7 with
          | false =>
            go_wp2_with (first
              | (go_at_call 67; (with_reducible refine (HDC.out _).mono ?_); rintro e6 w6 ⟨u6, rfl, hb6⟩; have HB6 := Lib.hid hb6; have HR7 := Lib.hid (kept_heap HR6.out hb6); have p73 := cellV w6 _ 3 _ _ _ HR7.out; obtain ⟨r0, r1, r2⟩ := HC0.out _ hb6; clear hb6)
              | (go_at_call 69; (with_reducible refine (HAT7.out _ (stp HBW.out HB6.out)).mono ?_); rintro e7 w7 ⟨s7, n7, rfl, hab7, hb7⟩; have HAB := Lib.hid hab7; have HB7 := Lib.hid (stp HB6.out hb7); clear hb7 hab7)
              | (refine wpList_store_row rfl _ _ _ rfl w7.heap.size #[.string s7, .string n7, .string z2] rfl rfl 41 zAt3 (heap_alloc_new _ _) sizeAt3 rfl (oneAt3 _ _ _) ?_; rw [World.setRow_alloc_new]; obtain ⟨W8, hW8, hr8, hb8⟩ := opnV w7 (.cells #[.string s7, .string n7, .string z2] 41); rw [hW8]; have HB8 := Lib.hid (stp HB7.out hb8); have HX8 := Lib.hid hr8; have HG8 := Lib.hid (kept_heap HST.out.box HB8.out); have p83 := cellV W8 _ 3 _ _ _ HG8.out; clear hW8 hr8 hb8)
              | fail)
            go_loopg [9, 16] L.length (fun gg x9 x16 wr => ∃ (k : Nat) (bk : Bool), k + gg = L.length ∧ x16 = .int .i64 k ∧ x9 = .bool bk ∧ bk = (false && !hasK ((L.take k).map abVal) ⟨s7.data.toList, n7.data.toList, z2.data.toList⟩) ∧ Below W8.heap.size W8 wr)
            case atStart => exact ⟨0, false, by omega, rfl, rfl, by simp [hasK], Below.refl _ _⟩
            case round =>
              rename Nat => go2
              rename World => wq
              obtain ⟨k, bk, hkg, rfl, rfl, hbk, hbq⟩ := hrel
              have HBQ := Lib.hid (stp HB8.out hbq)
              have HB8Q := Lib.hid hbq
              have HBK := Lib.hid hbk
              have p93 := cellV wq _ 3 _ _ _ (kept_heap HG8.out hbq)
              have d0 := cellV wq _ 0 _ _ _ (kept_heap HX8.out hbq)
              have d1 := cellV wq _ 1 _ _ _ (kept_heap HX8.out hbq)
              have HX9 := Lib.hid (kept_heap HX8.out hbq)
              have lnb : (L.length : Int) ≤ 1000000 := by have := HLN.out; omega
              by_cases hlt2 : k < L.length
              · obtain ⟨g9, o9, x9, y9, z9, hA9, he9, t0, t1⟩ := HST.out.at HBQ.out hlt2
                have bk1 : (0 : Int) ≤ (k : Int) ∧ (k : Int) < (L.length : Int) := by omega
                obtain ⟨h0, hh0⟩ : ∃ h0, hasK ((L.take k).map abVal) ⟨s7.data.toList, n7.data.toList, z2.data.toList⟩ = h0 := ⟨_, rfl⟩
                have HNK : Hid (∀ t, ((x9.toList != s7.toList) || (y9.toList != n7.toList)) = t → hasK ((L.take (k + 1)).map abVal) ⟨s7.data.toList, n7.data.toList, z2.data.toList⟩ = (h0 || !t)) := Lib.hid fun t ht => hasK_next hlt2 he9 s7 n7 z2 h0 hh0 t ht
                rw [hh0] at hbk
                cases bk with
                | false =>
                  have HN : Hid (false = (false && !hasK ((L.take (k + 1)).map abVal) ⟨s7.data.toList, n7.data.toList, z2.data.toList⟩)) := Lib.hid (by rw [HNK.out _ rfl]; cases h0 <;> first | rfl | (exact absurd hbk (by decide)))
                  clear hbk hbq hA9 he9 hh0
                  go_wp2_with fail
                  go_quiet (fail)
                  go_wp2_with fail
                  go_roundg (go2 - 1)
                  case rel => exact ⟨k + 1, false, by omega, by go_num, rfl, HN.out, below_drewN HB8Q.out _⟩
                  case measure => omega
                | true =>
                  subst hA9
                  by_cases e1 : x9.toList = s7.toList
                  · have f1 : (x9.toList != s7.toList) = false := by simpa using e1
                    have f2 : (x9.toList == s7.toList) = true := by simpa using e1
                    by_cases e2 : y9.toList = n7.toList
                    · have f3 : (y9.toList != n7.toList) = false := by simpa using e2
                      have f4 : (y9.toList == n7.toList) = true := by simpa using e2
                      have HN : Hid (false = (false && !hasK ((L.take (k + 1)).map abVal) ⟨s7.data.toList, n7.data.toList, z2.data.toList⟩)) := Lib.hid (by rw [HNK.out _ rfl, f1, f3]; simp)
                      clear hbk hbq he9 hh0 e1 e2
                      go_wp2_with fail
                      go_quiet (fail)
                      go_wp2_with fail
                      go_roundg (go2 - 1)
                      case rel => exact ⟨k + 1, false, by omega, by go_num, rfl, HN.out, below_drewN HB8Q.out _⟩
                      case measure => omega
                    · have f3 : (y9.toList != n7.toList) = true := by simpa using e2
                      have f4 : (y9.toList == n7.toList) = false := by simpa using e2
                      have HN : Hid (true = (false && !hasK ((L.take (k + 1)).map abVal) ⟨s7.data.toList, n7.data.toList, z2.data.toList⟩)) := Lib.hid (by rw [HNK.out _ rfl, f3]; cases h0 <;> first | (exact absurd hbk (by decide)) | simp)
                      clear hbk hbq he9 hh0 e1 e2
                      go_wp2_with fail
                      go_quiet (fail)
                      go_wp2_with fail
                      go_roundg (go2 - 1)
                      case rel => exact ⟨k + 1, true, by omega, by go_num, rfl, HN.out, below_drewN HB8Q.out _⟩
                      case measure => omega
                  · have f1 : (x9.toList != s7.toList) = true := by simpa using e1
                    have f2 : (x9.toList == s7.toList) = false := by simpa using e1
                    have HN : Hid (true = (false && !hasK ((L.take (k + 1)).map abVal) ⟨s7.data.toList, n7.data.toList, z2.data.toList⟩)) := Lib.hid (by rw [HNK.out _ rfl, f1]; cases h0 <;> first | (exact absurd hbk (by decide)) | simp)
                    clear hbk hbq he9 hh0 e1
                    go_wp2_with fail
                    go_quiet (fail)
                    go_wp2_with fail
                    go_roundg (go2 - 1)
                    case rel => exact ⟨k + 1, true, by omega, by go_num, rfl, HN.out, below_drewN HB8Q.out _⟩
                    case measure => omega
              · obtain rfl : L.length = k := by omega
                rw [List.take_length] at hbk
                have HQ : Hid (((true && (atE (stackE v) a).2) && !hasK (L.map abVal) (atE (stackE v) a).1) = bk) := Lib.hid (by rw [HQ7.out, ← HAB.out, hbk]; rfl)
                clear hbk hbq
                go_wp2_with (first
                  | (refine wpList_load_row rfl _ _ rfl w7.heap.size rfl 41 #[.string s7, .string n7, .string z2] (0, 0) _ HX9.out Tryz.underlying41 rfl sizeAt3 ?_)
                  | (at_builtin; refine wpList_append_own_at _ rfl (.tmp 115) (.tmp 117) 37 rfl (w4.heap.size + 1) 41 i0 (.agg #[.string ⟨#[]⟩, .string ⟨#[]⟩, .string ⟨#[]⟩]) 3 48 Tryz.underlying37 HI.out HZ0.out HZ1.out HZ2.out rfl (by decide) _ L.length _ rfl (own_belowK HST.out.own (stpA HBQ.out _) (Nat.le_refl _)) ⟨wq.heap.size, 0, none⟩ 1 1 [.string s7, .string n7, .string z2] rfl rfl (new_at wq [.string s7, .string n7, .string z2] 41 wq.heap.size rfl) (by simp [Value.oneCell']) (by have := HLN.out; unfold maxLen; omega) (by have := HLN.out; omega) (by have := HST.out.lt; have := HBQ.out.size; rw [World.size_alloc]; omega) ?_; intro v5 w9 hown9 hgr9 _ _; obtain ⟨A5, c5, rfl⟩ := own_form2 hown9; have HS9 := Lib.hid (HST.out.snoc HTK.out HD.out ⟨s7, n7, z2⟩ HAB.out bk HQ.out (stpA HBQ.out _) hgr9 hown9); have hx9 := HST.out.box9 (stpA HBQ.out _) hgr9; have p103 := cellV w9 _ 3 _ _ _ hx9; have f103 := freeV w9 _ 3 _ _ hx9; clear hown9 hgr9 hx9)
                  | fail)
                go_roundg (go1 - 1)
                case rel => exact ⟨j + 1, bk, L ++ [⟨s7, n7, z2⟩], A5, c5, by omega, by go_num, rfl, HS9.out⟩
                case measure => omega
          | true =>
            go_wp2_with (first
              | (go_at_call 67; (with_reducible refine (HDC.out _).mono ?_); rintro e6 w6 ⟨u6, rfl, hb6⟩; have HB6 := Lib.hid hb6; have HR7 := Lib.hid (kept_heap HR6.out hb6); have p73 := cellV w6 _ 3 _ _ _ HR7.out; obtain ⟨r0, r1, r2⟩ := HC0.out _ hb6; clear hb6)
              | (go_at_call 69; (with_reducible refine (HAT7.out _ (stp HBW.out HB6.out)).mono ?_); rintro e7 w7 ⟨s7, n7, rfl, hab7, hb7⟩; have HAB := Lib.hid hab7; have HB7 := Lib.hid (stp HB6.out hb7); clear hb7 hab7)
              | (refine wpList_store_row rfl _ _ _ rfl w7.heap.size #[.string s7, .string n7, .string z2] rfl rfl 41 zAt3 (heap_alloc_new _ _) sizeAt3 rfl (oneAt3 _ _ _) ?_; rw [World.setRow_alloc_new]; obtain ⟨W8, hW8, hr8, hb8⟩ := opnV w7 (.cells #[.string s7, .string n7, .string z2] 41); rw [hW8]; have HB8 := Lib.hid (stp HB7.out hb8); have HX8 := Lib.hid hr8; have HG8 := Lib.hid (kept_heap HST.out.box HB8.out); have p83 := cellV W8 _ 3 _ _ _ HG8.out; clear hW8 hr8 hb8)
              | fail)
            go_loopg [9, 16] L.length (fun gg x9 x16 wr => ∃ (k : Nat) (bk : Bool), k + gg = L.length ∧ x16 = .int .i64 k ∧ x9 = .bool bk ∧ bk = (true && !hasK ((L.take k).map abVal) ⟨s7.data.toList, n7.data.toList, z2.data.toList⟩) ∧ Below W8.heap.size W8 wr)
            case atStart => exact ⟨0, true, by omega, rfl, rfl, by simp [hasK], Below.refl _ _⟩
            case round =>
              rename Nat => go2
              rename World => wq
              obtain ⟨k, bk, hkg, rfl, rfl, hbk, hbq⟩ := hrel
              have HBQ := Lib.hid (stp HB8.out hbq)
              have HB8Q := Lib.hid hbq
              have HBK := Lib.hid hbk
              have p93 := cellV wq _ 3 _ _ _ (kept_heap HG8.out hbq)
              have d0 := cellV wq _ 0 _ _ _ (kept_heap HX8.out hbq)
              have d1 := cellV wq _ 1 _ _ _ (kept_heap HX8.out hbq)
              have HX9 := Lib.hid (kept_heap HX8.out hbq)
              have lnb : (L.length : Int) ≤ 1000000 := by have := HLN.out; omega
              by_cases hlt2 : k < L.length
              · obtain ⟨g9, o9, x9, y9, z9, hA9, he9, t0, t1⟩ := HST.out.at HBQ.out hlt2
                have bk1 : (0 : Int) ≤ (k : Int) ∧ (k : Int) < (L.length : Int) := by omega
                obtain ⟨h0, hh0⟩ : ∃ h0, hasK ((L.take k).map abVal) ⟨s7.data.toList, n7.data.toList, z2.data.toList⟩ = h0 := ⟨_, rfl⟩
                have HNK : Hid (∀ t, ((x9.toList != s7.toList) || (y9.toList != n7.toList)) = t → hasK ((L.take (k + 1)).map abVal) ⟨s7.data.toList, n7.data.toList, z2.data.toList⟩ = (h0 || !t)) := Lib.hid fun t ht => hasK_next hlt2 he9 s7 n7 z2 h0 hh0 t ht
                rw [hh0] at hbk
                cases bk with
                | false =>
                  have HN : Hid (false = (true && !hasK ((L.take (k + 1)).map abVal) ⟨s7.data.toList, n7.data.toList, z2.data.toList⟩)) := Lib.hid (by rw [HNK.out _ rfl]; cases h0 <;> first | rfl | (exact absurd hbk (by decide)))
                  clear hbk hbq hA9 he9 hh0
                  go_wp2_with fail
                  go_quiet (fail)
                  go_wp2_with fail
                  go_roundg (go2 - 1)
                  case rel => exact ⟨k + 1, false, by omega, by go_num, rfl, HN.out, below_drewN HB8Q.out _⟩
                  case measure => omega
                | true =>
                  subst hA9
                  by_cases e1 : x9.toList = s7.toList
                  · have f1 : (x9.toList != s7.toList) = false := by simpa using e1
                    have f2 : (x9.toList == s7.toList) = true := by simpa using e1
                    by_cases e2 : y9.toList = n7.toList
                    · have f3 : (y9.toList != n7.toList) = false := by simpa using e2
                      have f4 : (y9.toList == n7.toList) = true := by simpa using e2
                      have HN : Hid (false = (true && !hasK ((L.take (k + 1)).map abVal) ⟨s7.data.toList, n7.data.toList, z2.data.toList⟩)) := Lib.hid (by rw [HNK.out _ rfl, f1, f3]; simp)
                      clear hbk hbq he9 hh0 e1 e2
                      go_wp2_with fail
                      go_quiet (fail)
                      go_wp2_with fail
                      go_roundg (go2 - 1)
                      case rel => exact ⟨k + 1, false, by omega, by go_num, rfl, HN.out, below_drewN HB8Q.out _⟩
                      case measure => omega
                    · have f3 : (y9.toList != n7.toList) = true := by simpa using e2
                      have f4 : (y9.toList == n7.toList) = false := by simpa using e2
                      have HN : Hid (true = (true && !hasK ((L.take (k + 1)).map abVal) ⟨s7.data.toList, n7.data.toList, z2.data.toList⟩)) := Lib.hid (by rw [HNK.out _ rfl, f3]; cases h0 <;> first | (exact absurd hbk (by decide)) | simp)
                      clear hbk hbq he9 hh0 e1 e2
                      go_wp2_with fail
                      go_quiet (fail)
                      go_wp2_with fail
                      go_roundg (go2 - 1)
                      case rel => exact ⟨k + 1, true, by omega, by go_num, rfl, HN.out, below_drewN HB8Q.out _⟩
                      case measure => omega
                  · have f1 : (x9.toList != s7.toList) = true := by simpa using e1
                    have f2 : (x9.toList == s7.toList) = false := by simpa using e1
                    have HN : Hid (true = (true && !hasK ((L.take (k + 1)).map abVal) ⟨s7.data.toList, n7.data.toList, z2.data.toList⟩)) := Lib.hid (by rw [HNK.out _ rfl, f1]; cases h0 <;> first | (exact absurd hbk (by decide)) | simp)
                    clear hbk hbq he9 hh0 e1
                    go_wp2_with fail
                    go_quiet (fail)
                    go_wp2_with fail
                    go_roundg (go2 - 1)
                    case rel => exact ⟨k + 1, true, by omega, by go_num, rfl, HN.out, below_drewN HB8Q.out _⟩
                    case measure => omega
              · obtain rfl : L.length = k := by omega
                rw [List.take_length] at hbk
                have HQ : Hid (((true && (atE (stackE v) a).2) && !hasK (L.map abVal) (atE (stackE v) a).1) = bk) := Lib.hid (by rw [HQ7.out, ← HAB.out, hbk]; rfl)
                clear hbk hbq
                go_wp2_with (first
                  | (refine wpList_load_row rfl _ _ rfl w7.heap.size rfl 41 #[.string s7, .string n7, .string z2] (0, 0) _ HX9.out Tryz.underlying41 rfl sizeAt3 ?_)
                  | (at_builtin; refine wpList_append_own_at _ rfl (.tmp 115) (.tmp 117) 37 rfl (w4.heap.size + 1) 41 i0 (.agg #[.string ⟨#[]⟩, .string ⟨#[]⟩, .string ⟨#[]⟩]) 3 48 Tryz.underlying37 HI.out HZ0.out HZ1.out HZ2.out rfl (by decide) _ L.length _ rfl (own_belowK HST.out.own (stpA HBQ.out _) (Nat.le_refl _)) ⟨wq.heap.size, 0, none⟩ 1 1 [.string s7, .string n7, .string z2] rfl rfl (new_at wq [.string s7, .string n7, .string z2] 41 wq.heap.size rfl) (by simp [Value.oneCell']) (by have := HLN.out; unfold maxLen; omega) (by have := HLN.out; omega) (by have := HST.out.lt; have := HBQ.out.size; rw [World.size_alloc]; omega) ?_; intro v5 w9 hown9 hgr9 _ _; obtain ⟨A5, c5, rfl⟩ := own_form2 hown9; have HS9 := Lib.hid (HST.out.snoc HTK.out HD.out ⟨s7, n7, z2⟩ HAB.out bk HQ.out (stpA HBQ.out _) hgr9 hown9); have hx9 := HST.out.box9 (stpA HBQ.out _) hgr9; have p103 := cellV w9 _ 3 _ _ _ hx9; have f103 := freeV w9 _ 3 _ _ hx9; clear hown9 hgr9 hx9)
                  | fail)
                go_roundg (go1 - 1)
                case rel => exact ⟨j + 1, bk, L ++ [⟨s7, n7, z2⟩], A5, c5, by omega, by go_num, rfl, HS9.out⟩
                case measure => omega
    · obtain rfl : m = j := by omega
      have HND : Hid (ndE (stackE v) x = (⟨1, s4.data.toList, u3.data.toList, L.map abVal, [], x.many⟩, ok)) := Lib.hid (by
        have hf := hst.fold
        rw [← HM.out, List.take_length, foldN_eq] at hf
        obtain ⟨f1, f2⟩ := (Prod.mk.injEq _ _ _ _).mp hf
        unfold ndE
        rw [← HIN.out.name, HNP.out]
        dsimp only
        rw [HL4.out, f1]
        dsimp only
        rw [f2])
      clear hst hlen
      go_wp2_with (first
        | (refine wpList_load_row rfl _ _ rfl w4.heap.size rfl 39 #[.int .u8 1, .string s4, .string u3, .slice A2 L.length c2, .string ⟨#[]⟩, .int .i64 x.many] (0, 0) _ HST.out.box Tryz.underlying39 rfl sizeNd ?_)
        | (refine wpList_store_row rfl _ _ _ rfl w.heap.size #[.int .u8 1, .string s4, .string u3, .slice A2 L.length c2, .string ⟨#[]⟩, .int .i64 x.many] rfl rfl 39 zNd6 HZ6.out sizeNd rfl (oneNd6 _ _ _ _ _ _ _ _) ?_)
        | fail)
      exact bodyPost_ret (v := .tuple #[.agg #[.int .u8 1, .string s4, .string u3, .slice A2 L.length c2, .string ⟨#[]⟩, .int .i64 x.many], .bool ok]) (rcell2 (p := 2) (q := 3) rfl _ _ _ _ #[.int .u8 1, .string s4, .string u3, .slice A2 L.length c2, .string ⟨#[]⟩, .int .i64 x.many] _ _ rfl (setRow_heap _ _ _ #[.int .u8 1, .string s4, .string u3, .slice A2 L.length c2, .string ⟨#[]⟩, .int .i64 x.many] _ _ HZ6.out) Tryz.underlying39 rfl sizeNd) rfl ⟨s4, u3, A2, c2, L, ok, w4.heap.size + 1, rfl, HND.out, by have := HB4.out.size; omega, own_setRow HST.out.own _ (by have := HB4.out.size; omega) _, below_setRowV HBW.out (Nat.le_refl _) _⟩
end Hx
end Go.Proofs.YteobcohjikjalaaGreatDoor
