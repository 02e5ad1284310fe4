/-
  Texts of one seat, put together: PkE.
-/
import Derived.Test.YtbjgfaflikgobaaDoorH16
namespace Go.Proofs.YtbjgfaflikgobaaDoor
open Go.RowKit
namespace Hx
open Lx Tr Tx Nmb Es
set_option linter.unusedVariables false
/-- What a step answers. -/
def ResTo (B gs base : Nat) (bb : Bool) (x : Except Int PS) (w : World) (e : Ending) (w' : World) : Prop := ∃ r : Int, e = .returned (.int .i64 r) ∧ Below B w w' ∧ match x with
  | .error q => r = q
  | .ok s => r = 0 ∧ ∃ (hi : Nat) (L : List NB) (Vn Vo : Value), L.map NB.n = s.V ∧ StkSt B gs base hi L s.O bb Vn Vo w'
theorem ResTo.err {B gs base : Nat} {bb : Bool} {w w' : World} {q : Int} (hb : Below B w w') : ResTo B gs base bb (.error q) w (.returned (.int .i64 q)) w' := ⟨q, rfl, hb, rfl⟩
theorem ResTo.good {B gs base hi : Nat} {bb : Bool} {w w' : World} {s : PS} {L : List NB} {O : List Nat} {Vn Vo : Value} (hb : Below B w w') (h1 : L.map NB.n = s.V) (h2 : O = s.O) (h : StkSt B gs base hi L O bb Vn Vo w') : ResTo B gs base bb (.ok s) w (.returned (.int .i64 0)) w' := ⟨0, rfl, hb, rfl, hi, L, Vn, Vo, h1, by rw [← h2]; exact h⟩
/-- What may be under way. -/
structure PSb (K : Nat) (s : PS) : Prop where
  len : s.V.length ≤ K
  dp : s.O.length ≤ 12
  pl : ∀ i ∈ s.O, i < s.V.length
  mm : ∀ n ∈ s.V, 0 ≤ n.many ∧ n.many ≤ (K : Int)
theorem PSb.nil : PSb 0 ⟨[], []⟩ := ⟨Nat.le_refl _, by decide, fun _ h => (by cases h), fun _ h => (by cases h)⟩
theorem pk_bump_many {O : List Nat} {V : List Nd} {K : Int} (h : ∀ n ∈ V, 0 ≤ n.many ∧ n.many ≤ K) : ∀ n ∈ bump O V, 0 ≤ n.many ∧ n.many ≤ K + 1 := by
  intro n hn
  unfold bump at hn
  split at hn
  · have := h n hn; omega
  · obtain ⟨j, hj, e⟩ := List.getElem_of_mem hn
    rw [List.getElem_modify] at e
    rw [List.length_modify] at hj
    have h9 := h _ (List.getElem_mem hj)
    split at e
    · rw [← e]
      show 0 ≤ _ + 1 ∧ _ + 1 ≤ _
      omega
    · rw [← e]; omega
theorem pk_bump_len (O : List Nat) (V : List Nd) : (bump O V).length = V.length := by
  unfold bump
  split
  · rfl
  · exact List.length_modify ..
theorem nodeT_many (t : Tk) : (nodeT t).many = 0 := by unfold nodeT; split <;> rfl
theorem PSb.more {K : Nat} {s : PS} {b : Bool} {t : Tk} {s' : PS} (h : PSb K s) (hs : stepP s b t = .ok s') : PSb (K + 1) s' := by
  have hnew : ∀ (n : Nd), (∀ m ∈ bump s.O s.V ++ [nodeT t], 0 ≤ m.many ∧ m.many ≤ ((K + 1 : Nat) : Int)) := fun _ m hm => by
    rcases List.mem_append.1 hm with hm | hm
    · have := pk_bump_many h.mm m hm; omega
    · obtain rfl := List.mem_singleton.1 hm
      rw [nodeT_many]
      omega
  have hl : (bump s.O s.V ++ [nodeT t]).length = s.V.length + 1 := by rw [List.length_append, pk_bump_len]; rfl
  have h1 := h.len
  have same : PSb (K + 1) s := ⟨by omega, h.dp, h.pl, fun n hn => by have := h.mm n hn; omega⟩
  unfold stepP at hs
  split at hs
  · split at hs
    · cases hs
    · split at hs
      · split at hs
        · injection hs with hs; subst hs; exact same
        · cases hs
      · injection hs with hs
        subst hs
        exact ⟨by rw [hl]; omega, h.dp, fun i hi => by rw [hl]; have := h.pl i hi; omega, hnew (nodeT t)⟩
  · split at hs
    · split at hs
      · cases hs
      · split at hs
        · injection hs with hs
          subst hs
          exact ⟨by show s.V.length ≤ _; omega, by show s.O.dropLast.length ≤ 12; rw [List.length_dropLast]; have := h.dp; omega, fun i hi => h.pl i (List.dropLast_subset _ hi), same.mm⟩
        · cases hs
    · split at hs
      · cases hs
      · split at hs
        · cases hs
        · rename_i h12
          injection hs with hs
          subst hs
          refine ⟨by rw [hl]; omega, ?_, ?_, hnew (nodeT t)⟩
          · show (if t.kind = 3 then s.O else s.O ++ [s.V.length]).length ≤ 12
            have := h.dp
            split
            · omega
            · rw [List.length_append, List.length_singleton]; omega
          · intro i hi
            have hi : i ∈ (if t.kind = 3 then s.O else s.O ++ [s.V.length]) := hi
            rw [hl]
            split at hi
            · have := h.pl i hi; omega
            · rcases List.mem_append.1 hi with hi | hi
              · have := h.pl i hi; omega
              · obtain rfl := List.mem_singleton.1 hi
                omega
/-- How a state stands in memory. -/
structure StOf (B gs base : Nat) (s : PS) (bb : Bool) (wr : World) : Prop where
  ex : ∃ (hi : Nat) (L : List NB) (Vn Vo : Value), L.map NB.n = s.V ∧ StkSt B gs base hi L s.O bb Vn Vo wr
theorem map_mm {L : List NB} {V : List Nd} {K : Nat} (hV : L.map NB.n = V) (h : ∀ n ∈ V, 0 ≤ n.many ∧ n.many ≤ (K : Int)) (hK : K ≤ 1000000) : ∀ b ∈ L, 0 ≤ b.n.many ∧ b.n.many ≤ 1000000 := fun b hb => by
  have := h b.n (by rw [← hV]; exact List.mem_map_of_mem hb)
  omega
theorem shut_res (B gs base : Nat) (s : PS) (bb b : Bool) (K : Nat) (t : Tk) (x : ByteArray) (w : World) (h : StOf B gs base s bb w) (hi : PSb K s) (hK : K ≤ 100000) (hx : x.data.toList = t.name) (ht : t.kind = 2) :
    Calls Tryd.prog 17 #[.pointer (some ⟨gs, 0, none⟩), .string x] w (ResTo B gs base bb (stepP s b t) w) := by
  obtain ⟨⟨hi2, L, Vn, Vo, hV, hst⟩⟩ := h
  have hLl : L.length = s.V.length := by rw [← hV, List.length_map]
  have h1 := hi.len
  have h2 := hi.dp
  have hab := hst.above
  rcases List.eq_nil_or_concat s.O with h0 | ⟨O1, i, h0⟩
  · have e : stepP s b t = .error 80 := by
      unfold stepP
      rw [if_neg (by omega), if_pos ht, h0]
      rfl
    rw [e]
    exact (stkshut_none B gs base hi2 L s.O bb Vn Vo x w hst (by omega) (by omega) h0).mono fun e w' h => by
      obtain ⟨rfl, hb⟩ := h
      exact ResTo.err (hb.mono hab.1)
  · rw [List.concat_eq_append] at h0
    have hil : i < L.length := by rw [hLl]; exact hi.pl i (by rw [h0]; simp)
    have hiv : i < s.V.length := by omega
    have hnm : (L[i]'hil).y.data.toList = (s.V[i]'hiv).name := by
      have := (hst.gr.inn _ (List.getElem_mem hil)).name
      rw [this]
      have e : (s.V[i]'hiv) = (L[i]'hil).n := by
        have : (L.map NB.n)[i]'(by rw [List.length_map]; exact hil) = (L[i]'hil).n := List.getElem_map ..
        rw [← this]
        congr 1
        exact hV.symm
      rw [e]
    have e : stepP s b t = if (s.V[i]'hiv).name = t.name then .ok ⟨s.V, s.O.dropLast⟩ else .error 80 := by
      unfold stepP
      rw [if_neg (by omega), if_pos ht, h0, List.getLast?_concat]
      dsimp only
      rw [List.getElem?_eq_getElem hiv]
      by_cases hn : (s.V[i]'hiv).name = t.name
      · rw [if_pos hn, if_pos (by rw [← hn]; rfl)]
      · rw [if_neg hn, if_neg (show ¬ (Option.map (fun x => x.name) (some (s.V[i]'hiv)) = some t.name) from fun h => hn (Option.some.inj h))]
    rw [e]
    refine (stkshut_some B gs base hi2 L s.O bb Vn Vo x w hst (by omega) (by omega) O1 i h0 hil _ rfl).mono fun e w' h => ?_
    by_cases hn : (s.V[i]'hiv).name = t.name
    · have hq : decide ((L[i]'hil).y = x) = true := decide_eq_true (by rw [ba_eq5 x, hx, ← hn, ← hnm, ← ba_eq5])
      rw [hq, if_pos rfl] at h
      rw [if_pos hn]
      obtain ⟨rfl, hb, Vo', hs⟩ := h
      exact ResTo.good hb hV rfl hs
    · have hq : decide ((L[i]'hil).y = x) = false := decide_eq_false fun e => hn (by rw [← hnm, e, hx])
      rw [hq, if_neg (by decide)] at h
      rw [if_neg hn]
      obtain ⟨rfl, hb⟩ := h
      exact ResTo.err (hb.mono hab.1)
theorem words_res (B gs base : Nat) (s : PS) (bb : Bool) (K : Nat) (t : Tk) (u : ByteArray) (w : World) (h : StOf B gs base s bb w) (hi : PSb K s) (hK : K ≤ 100000) (hx : u.data.toList = t.text) (hu : u.size ≤ 1000000) (ht : t.kind = 4) :
    Calls Tryd.prog 19 #[.pointer (some ⟨gs, 0, none⟩), .string u] w (ResTo B gs base bb (stepP s false t) w) := by
  obtain ⟨⟨hi2, L, Vn, Vo, hV, hst⟩⟩ := h
  have hLl : L.length = s.V.length := by rw [← hV, List.length_map]
  have h1 := hi.len
  have h2 := hi.dp
  have hab := hst.above
  by_cases h0 : s.O = []
  · have e : stepP s false t = if t.text.all blk = true then .ok s else .error 80 := by
      unfold stepP
      rw [if_pos ht, if_neg (by decide), if_pos h0]
    rw [e]
    refine (stkwords_none B gs base hi2 L s.O bb Vn Vo u w hst (by omega) (by omega) h0 hu _ rfl _ rfl).mono fun e w' h => ?_
    rw [hx] at h
    obtain ⟨rfl, hb⟩ := h
    by_cases hq : t.text.all blk = true
    · rw [if_pos hq, if_pos hq]
      exact ResTo.good (hb.mono hab.1) hV rfl (hst.below hb (Nat.le_refl _) (Nat.le_trans hst.gr.sz hb.size))
    · rw [if_neg hq, if_neg hq]
      exact ResTo.err (hb.mono hab.1)
  · have e : stepP s false t = .ok ⟨bump s.O s.V ++ [nodeT t], s.O⟩ := by
      unfold stepP
      rw [if_pos ht, if_neg (by decide), if_neg h0]
    rw [e]
    refine (stkwords_open B gs base hi2 L s.O bb Vn Vo u w hst (by omega) (by omega) h0 hu (fun i hi' => by rw [hLl]; exact hi.pl i hi') (map_mm hV hi.mm (by omega))).mono fun e w' h => ?_
    obtain ⟨rfl, hb, Vn', hs⟩ := h
    refine ResTo.good hb ?_ rfl hs
    rw [List.map_append, bumpL_map, hV]
    unfold nodeT
    rw [if_pos ht, ← hx]
    rfl
theorem begin_res (B gs base : Nat) (s : PS) (bb b : Bool) (K : Nat) (t : Tk) (x u : ByteArray) (A : Option Addr) (cp : Nat) (w : World) (h : StOf B gs base s bb w) (hi : PSb K s) (hK : K ≤ 100000) (htk : TkAt t x u A cp w) (ht : t.kind = 1 ∨ t.kind = 3) :
    Calls Tryd.prog 18 #[.pointer (some ⟨gs, 0, none⟩), TkV t x u A cp] w (ResTo B gs base bb (stepP s b t) w) := by
  obtain ⟨⟨hi2, L, Vn, Vo, hV, hst⟩⟩ := h
  have hLl : L.length = s.V.length := by rw [← hV, List.length_map]
  have h1 := hi.len
  have h2 := hi.dp
  have hab := hst.above
  have e : stepP s b t = if s.O = [] ∧ s.V ≠ [] then .error 80 else if s.O.length = 12 then .error 100 else .ok ⟨bump s.O s.V ++ [nodeT t], if t.kind = 3 then s.O else s.O ++ [s.V.length]⟩ := by
    unfold stepP
    rw [if_neg (by omega), if_neg (by omega)]
  rw [e]
  have hLV : L = [] ↔ s.V = [] := by rw [← List.length_eq_zero_iff, ← List.length_eq_zero_iff, hLl]
  have good : ∀ (e : Ending) (w' : World), (e = .returned (.int .i64 0) ∧ Below B w w' ∧ BgOut B gs base L s.O bb t w') → ResTo B gs base bb (.ok ⟨bump s.O s.V ++ [nodeT t], if t.kind = 3 then s.O else s.O ++ [s.V.length]⟩) w e w' := by
    rintro e w' ⟨rfl, hb, hi3, b3, Vn2, Vo2, hb3, hs⟩
    refine ResTo.good hb ?_ rfl (by rw [hLl] at hs; exact hs)
    rw [List.map_append, bumpL_map, hV]
    show _ ++ [b3.n] = _
    rw [hb3]
  by_cases hg : s.O = [] ∧ s.V ≠ []
  · rw [if_pos hg]
    exact (stkbegin_xml B gs base hi2 L s.O bb Vn Vo t x u A cp w hst htk hg.1 (fun e => hg.2 (hLV.1 e)) (by omega)).mono fun e w' h => by
      obtain ⟨rfl, hb⟩ := h
      exact ResTo.err (hb.mono hab.1)
  · rw [if_neg hg]
    by_cases h12 : s.O.length = 12
    · rw [if_pos h12]
      exact (stkbegin_deep B gs base hi2 L s.O bb Vn Vo t x u A cp w hst htk h12 (by omega)).mono fun e w' h => by
        obtain ⟨rfl, hb⟩ := h
        exact ResTo.err (hb.mono hab.1)
    · rw [if_neg h12]
      by_cases h0 : s.O = []
      · have hV0 : s.V = [] := by
          by_cases hv : s.V = []
          · exact hv
          · exact absurd ⟨h0, hv⟩ hg
        exact (stkbegin_ok0 B gs base hi2 L s.O bb Vn Vo t x u A cp w hst htk ⟨h0, hLV.2 hV0⟩ (by omega) (by omega) (fun i hi' => by rw [hLl]; exact hi.pl i hi') (map_mm hV hi.mm (by omega)) ht).mono fun e w' h => good e w' h
      · exact (stkbegin_ok1 B gs base hi2 L s.O bb Vn Vo t x u A cp w hst htk h0 (by omega) (by omega) (fun i hi' => by rw [hLl]; exact hi.pl i hi') (map_mm hV hi.mm (by omega)) ht).mono fun e w' h => good e w' h
theorem StOf.put2 {B gs base : Nat} {s : PS} {bb c : Bool} {w W0 : World} (h : StOf B gs base s bb w) (hb : Below w.heap.size w W0) : StOf B gs base s c (W0.setCell ⟨gs, 2, none⟩ (.bool c)) ∧ Below B w (W0.setCell ⟨gs, 2, none⟩ (.bool c)) ∧ ∀ k, k < w.heap.size → k ≠ gs → (W0.setCell ⟨gs, 2, none⟩ (.bool c)).heap[k]? = w.heap[k]? := by
  obtain ⟨⟨hi2, L, Vn, Vo, hV, hst⟩⟩ := h
  have hab := hst.above
  have h2 := hst.below hb (Nat.le_refl _) (Nat.le_trans hst.gr.sz hb.size)
  have hlo := hst.lo
  have hoth : ∀ q, q ≠ gs → (W0.setCell ⟨gs, 2, none⟩ (.bool c)).heap[q]? = W0.heap[q]? := fun q hq => heap_setCell_other _ _ _ _ hq
  exact ⟨⟨hi2, L, Vn, Vo, hV, heap_setCell_same W0 gs 2 _ _ _ h2.box, h2.gr.keep (fun q hq _ => hoth q (by omega)) (Nat.le_refl _) (by have := h2.gr.sz; simpa [World.setCell] using this), hst.lo⟩, (hb.mono hab.1).setCell (p := ⟨gs, 2, none⟩) hlo.1 _, fun k hk hne => (hoth k hne).trans (hb.block k hk)⟩
theorem infoTkP : (Tryd.prog.info? 26).map (·.size) = some 4 := by kernel_rfl
theorem StOf.cells {B gs base : Nat} {s : PS} {bb : Bool} {w : World} (h : StOf B gs base s bb w) : ∃ Vn Vo, w.heap[gs]? = some (.cells #[Vn, Vo, .bool bb] 42 (0, 0)) ∧ B ≤ gs ∧ gs < w.heap.size := by
  obtain ⟨⟨hi2, L, Vn, Vo, hV, hst⟩⟩ := h
  exact ⟨Vn, Vo, hst.box, hst.lo.1, hst.above.2.1⟩
set_option maxHeartbeats 16000000 in
set_option maxRecDepth 100000 in
theorem stktake_shut (B gs base : Nat) (s : PS) (bb : Bool) (K : Nat) (t : Tk) (x u : ByteArray) (A : Option Addr) (cp : Nat) (w : World) (h : StOf B gs base s bb w) (hi : PSb K s) (hK : K ≤ 100000) (ht : TkAt t x u A cp w) (hBl : TkAt t x u A cp w → ∀ W, (∀ k, k < B → W.heap[k]? = w.heap[k]?) → w.heap.size ≤ W.heap.size → TkAt t x u A cp W) (hk : t.kind = 2) :
    Calls Tryd.prog 11 #[.pointer (some ⟨gs, 0, none⟩), TkV t x u A cp] w (ResTo B gs base false (stepP s bb t) w) := by
  obtain ⟨na, hna⟩ : ∃ na, t.attrs.length = na := ⟨_, rfl⟩
  obtain ⟨Vn, Vo, hbox, hgs1, hgs2⟩ := h.cells
  have ht0 : ((2 : Nat) : Int) = 2 := rfl
  unfold TkV
  rw [hna, hk, ht0]
  obtain ⟨W0, hW0⟩ : ∃ W0, w.alloc (.cells #[.int .u8 2, .string x, .slice A na cp, .string u] 26) = W0 := ⟨_, rfl⟩
  have HBE : Hid (Below w.heap.size w W0) := Lib.hid (by rw [← hW0]; exact stpA (Below.refl _ _) _)
  have HTB : Hid (W0.heap[w.heap.size]? = some (.cells #[.int .u8 2, .string x, .slice A na cp, .string u] 26 (0, 0))) := Lib.hid (by rw [← hW0]; exact heap_alloc_new _ _)
  obtain ⟨hp1, hp2, hp3⟩ := h.put2 (c := false) HBE.out
  obtain ⟨W1, hW1⟩ : ∃ W1, W0.setCell ⟨gs, 2, none⟩ (.bool false) = W1 := ⟨_, rfl⟩
  rw [hW1] at hp1 hp2 hp3
  have g2 := cellV W0 _ 2 _ _ _ (kept_heap hbox HBE.out)
  have f2 := freeV W0 gs 2 _ _ (kept_heap hbox HBE.out)
  have t0 := cellV W0 _ 0 _ _ _ HTB.out
  have htb1 : W1.heap[w.heap.size]? = some (.cells #[.int .u8 2, .string x, .slice A na cp, .string u] 26 (0, 0)) := by rw [← hW1]; exact (heap_setCell_other _ _ _ _ (by show w.heap.size ≠ gs; omega)).trans HTB.out
  have HTB1 := Lib.hid htb1
  have u0 := cellV W1 _ 0 _ _ _ htb1
  have u1 := cellV W1 _ 1 _ _ _ htb1
  have u3 := cellV W1 _ 3 _ _ _ htb1
  obtain ⟨Vn1, Vo1, hbox1, _, _⟩ := hp1.cells
  have v2 := cellV W1 _ 2 _ _ _ hbox1
  have HBB := Lib.hid hp2
  have HC := Lib.hid (shut_res B gs base s false bb K t x W1 hp1 hi hK ht.name hk)
  clear h hi ht hbox hp1 hp2 hp3 htb1 hbox1 hBl
  go_enter Tryd.func11, Tryd.ntmps11
  go_wp2_with (first
    | (go_at_call 17; (try rw [hW1]); (with_reducible refine (HC.out).mono ?_); rintro e5 w5 ⟨r, rfl, hb5, hx5⟩)
    | fail)
  go_ret
  exact ⟨r, rfl, HBB.out.trans hb5, hx5⟩
set_option maxHeartbeats 16000000 in
set_option maxRecDepth 100000 in
theorem stktake_two (B gs base : Nat) (s : PS) (bb : Bool) (K : Nat) (t : Tk) (x u : ByteArray) (A : Option Addr) (cp : Nat) (w : World) (h : StOf B gs base s bb w) (hi : PSb K s) (hK : K ≤ 100000) (ht : TkAt t x u A cp w) (hBl : TkAt t x u A cp w → ∀ W, (∀ k, k < B → W.heap[k]? = w.heap[k]?) → w.heap.size ≤ W.heap.size → TkAt t x u A cp W) (hk : t.kind = 4) (hbb : bb = true) :
    Calls Tryd.prog 11 #[.pointer (some ⟨gs, 0, none⟩), TkV t x u A cp] w (ResTo B gs base true (stepP s bb t) w) := by
  obtain ⟨na, hna⟩ : ∃ na, t.attrs.length = na := ⟨_, rfl⟩
  obtain ⟨Vn, Vo, hbox, hgs1, hgs2⟩ := h.cells
  have ht0 : ((4 : Nat) : Int) = 4 := rfl
  subst hbb
  unfold TkV
  rw [hna, hk, ht0]
  obtain ⟨W0, hW0⟩ : ∃ W0, w.alloc (.cells #[.int .u8 4, .string x, .slice A na cp, .string u] 26) = W0 := ⟨_, rfl⟩
  have HBE : Hid (Below w.heap.size w W0) := Lib.hid (by rw [← hW0]; exact stpA (Below.refl _ _) _)
  have HTB : Hid (W0.heap[w.heap.size]? = some (.cells #[.int .u8 4, .string x, .slice A na cp, .string u] 26 (0, 0))) := Lib.hid (by rw [← hW0]; exact heap_alloc_new _ _)
  obtain ⟨hp1, hp2, hp3⟩ := h.put2 (c := true) HBE.out
  obtain ⟨W1, hW1⟩ : ∃ W1, W0.setCell ⟨gs, 2, none⟩ (.bool true) = W1 := ⟨_, rfl⟩
  rw [hW1] at hp1 hp2 hp3
  have g2 := cellV W0 _ 2 _ _ _ (kept_heap hbox HBE.out)
  have f2 := freeV W0 gs 2 _ _ (kept_heap hbox HBE.out)
  have t0 := cellV W0 _ 0 _ _ _ HTB.out
  have htb1 : W1.heap[w.heap.size]? = some (.cells #[.int .u8 4, .string x, .slice A na cp, .string u] 26 (0, 0)) := by rw [← hW1]; exact (heap_setCell_other _ _ _ _ (by show w.heap.size ≠ gs; omega)).trans HTB.out
  have HTB1 := Lib.hid htb1
  have u0 := cellV W1 _ 0 _ _ _ htb1
  have u1 := cellV W1 _ 1 _ _ _ htb1
  have u3 := cellV W1 _ 3 _ _ _ htb1
  obtain ⟨Vn1, Vo1, hbox1, _, _⟩ := hp1.cells
  have v2 := cellV W1 _ 2 _ _ _ hbox1
  have HBB := Lib.hid hp2
  have hse : stepP s true t = .error 80 := by unfold stepP; rw [if_pos hk, if_pos rfl]
  rw [hse]
  clear h hi ht hbox hp1 hp2 hp3 htb1 hbox1 hBl
  go_enter Tryd.func11, Tryd.ntmps11
  go_wp2_with (first
    | fail)
  go_ret
  (try rw [hW1])
  exact ResTo.err HBB.out
set_option maxHeartbeats 16000000 in
set_option maxRecDepth 100000 in
theorem stktake_words (B gs base : Nat) (s : PS) (bb : Bool) (K : Nat) (t : Tk) (x u : ByteArray) (A : Option Addr) (cp : Nat) (w : World) (h : StOf B gs base s bb w) (hi : PSb K s) (hK : K ≤ 100000) (ht : TkAt t x u A cp w) (hBl : TkAt t x u A cp w → ∀ W, (∀ k, k < B → W.heap[k]? = w.heap[k]?) → w.heap.size ≤ W.heap.size → TkAt t x u A cp W) (hk : t.kind = 4) (hbb : bb = false) :
    Calls Tryd.prog 11 #[.pointer (some ⟨gs, 0, none⟩), TkV t x u A cp] w (ResTo B gs base true (stepP s bb t) w) := by
  obtain ⟨na, hna⟩ : ∃ na, t.attrs.length = na := ⟨_, rfl⟩
  obtain ⟨Vn, Vo, hbox, hgs1, hgs2⟩ := h.cells
  have ht0 : ((4 : Nat) : Int) = 4 := rfl
  subst hbb
  unfold TkV
  rw [hna, hk, ht0]
  obtain ⟨W0, hW0⟩ : ∃ W0, w.alloc (.cells #[.int .u8 4, .string x, .slice A na cp, .string u] 26) = W0 := ⟨_, rfl⟩
  have HBE : Hid (Below w.heap.size w W0) := Lib.hid (by rw [← hW0]; exact stpA (Below.refl _ _) _)
  have HTB : Hid (W0.heap[w.heap.size]? = some (.cells #[.int .u8 4, .string x, .slice A na cp, .string u] 26 (0, 0))) := Lib.hid (by rw [← hW0]; exact heap_alloc_new _ _)
  obtain ⟨hp1, hp2, hp3⟩ := h.put2 (c := true) HBE.out
  obtain ⟨W1, hW1⟩ : ∃ W1, W0.setCell ⟨gs, 2, none⟩ (.bool true) = W1 := ⟨_, rfl⟩
  rw [hW1] at hp1 hp2 hp3
  have g2 := cellV W0 _ 2 _ _ _ (kept_heap hbox HBE.out)
  have f2 := freeV W0 gs 2 _ _ (kept_heap hbox HBE.out)
  have t0 := cellV W0 _ 0 _ _ _ HTB.out
  have htb1 : W1.heap[w.heap.size]? = some (.cells #[.int .u8 4, .string x, .slice A na cp, .string u] 26 (0, 0)) := by rw [← hW1]; exact (heap_setCell_other _ _ _ _ (by show w.heap.size ≠ gs; omega)).trans HTB.out
  have HTB1 := Lib.hid htb1
  have u0 := cellV W1 _ 0 _ _ _ htb1
  have u1 := cellV W1 _ 1 _ _ _ htb1
  have u3 := cellV W1 _ 3 _ _ _ htb1
  obtain ⟨Vn1, Vo1, hbox1, _, _⟩ := hp1.cells
  have v2 := cellV W1 _ 2 _ _ _ hbox1
  have HBB := Lib.hid hp2
  have HC := Lib.hid (words_res B gs base s true K t u W1 hp1 hi hK ht.text ht.us hk)
  clear h hi ht hbox hp1 hp2 hp3 htb1 hbox1 hBl
  go_enter Tryd.func11, Tryd.ntmps11
  go_wp2_with (first
    | (go_at_call 19; (try rw [hW1]); (with_reducible refine (HC.out).mono ?_); rintro e5 w5 ⟨r, rfl, hb5, hx5⟩)
    | fail)
  go_ret
  exact ⟨r, rfl, HBB.out.trans hb5, hx5⟩
set_option maxHeartbeats 16000000 in
set_option maxRecDepth 100000 in
theorem stktake_begin (B gs base : Nat) (s : PS) (bb : Bool) (K : Nat) (t : Tk) (x u : ByteArray) (A : Option Addr) (cp : Nat) (w : World) (h : StOf B gs base s bb w) (hi : PSb K s) (hK : K ≤ 100000) (ht : TkAt t x u A cp w) (hBl : TkAt t x u A cp w → ∀ W, (∀ k, k < B → W.heap[k]? = w.heap[k]?) → w.heap.size ≤ W.heap.size → TkAt t x u A cp W) (hk : t.kind = 1 ∨ t.kind = 3) :
    Calls Tryd.prog 11 #[.pointer (some ⟨gs, 0, none⟩), TkV t x u A cp] w (ResTo B gs base false (stepP s bb t) w) := by
  obtain ⟨na, hna⟩ : ∃ na, t.attrs.length = na := ⟨_, rfl⟩
  obtain ⟨Vn, Vo, hbox, hgs1, hgs2⟩ := h.cells
  obtain ⟨tk, htk⟩ : ∃ tk, t.kind = tk := ⟨_, rfl⟩
  have bt1 : ((tk : Int) == 2) = false := by simp; omega
  have bt2 : ((tk : Int) == 4) = false := by simp; omega
  have bt3 : ¬ (tk : Int) = 2 := by omega
  have bt4 : ¬ (tk : Int) = 4 := by omega
  unfold TkV
  rw [hna, htk]
  obtain ⟨W0, hW0⟩ : ∃ W0, w.alloc (.cells #[.int .u8 (tk : Int), .string x, .slice A na cp, .string u] 26) = W0 := ⟨_, rfl⟩
  have HBE : Hid (Below w.heap.size w W0) := Lib.hid (by rw [← hW0]; exact stpA (Below.refl _ _) _)
  have HTB : Hid (W0.heap[w.heap.size]? = some (.cells #[.int .u8 (tk : Int), .string x, .slice A na cp, .string u] 26 (0, 0))) := Lib.hid (by rw [← hW0]; exact heap_alloc_new _ _)
  obtain ⟨hp1, hp2, hp3⟩ := h.put2 (c := false) HBE.out
  obtain ⟨W1, hW1⟩ : ∃ W1, W0.setCell ⟨gs, 2, none⟩ (.bool false) = W1 := ⟨_, rfl⟩
  rw [hW1] at hp1 hp2 hp3
  have g2 := cellV W0 _ 2 _ _ _ (kept_heap hbox HBE.out)
  have f2 := freeV W0 gs 2 _ _ (kept_heap hbox HBE.out)
  have t0 := cellV W0 _ 0 _ _ _ HTB.out
  have htb1 : W1.heap[w.heap.size]? = some (.cells #[.int .u8 (tk : Int), .string x, .slice A na cp, .string u] 26 (0, 0)) := by rw [← hW1]; exact (heap_setCell_other _ _ _ _ (by show w.heap.size ≠ gs; omega)).trans HTB.out
  have HTB1 := Lib.hid htb1
  have u0 := cellV W1 _ 0 _ _ _ htb1
  have u1 := cellV W1 _ 1 _ _ _ htb1
  have u3 := cellV W1 _ 3 _ _ _ htb1
  obtain ⟨Vn1, Vo1, hbox1, _, _⟩ := hp1.cells
  have v2 := cellV W1 _ 2 _ _ _ hbox1
  have HBB := Lib.hid hp2
  have HC := Lib.hid (begin_res B gs base s false bb K t x u A cp W1 hp1 hi hK (hBl ht W1 (fun k hk => hp3 k (by omega) (by omega)) (by rw [← hW1]; have := HBE.out.size; simpa [World.setCell] using this)) hk)
  unfold TkV at HC
  rw [hna, htk] at HC
  clear h hi ht hbox hp1 hp2 hp3 htb1 hbox1 hBl
  go_enter Tryd.func11, Tryd.ntmps11
  go_wp2_with (first
    | (go_at_call 18; (try rw [hW1]); (with_reducible refine (HC.out).mono ?_); rintro e5 w5 ⟨r, rfl, hb5, hx5⟩)
    | (refine wpList_load_row rfl _ _ rfl w.heap.size rfl 26 #[.int .u8 (tk : Int), .string x, .slice A na cp, .string u] (0, 0) _ HTB1.out Tryd.underlying26 rfl infoTkP ?_)
    | fail)
  go_ret
  exact ⟨r, rfl, HBB.out.trans hb5, hx5⟩
end Hx
end Go.Proofs.YtbjgfaflikgobaaDoor
