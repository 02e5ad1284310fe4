/-
  Texts of one seat, put together: PkE, PkF, LeaF, LeaG.
-/
import Derived.Test.YtlhjcdkkmloamaaGreatDoorSp29
import Derived.Test.YtlhjcdkkmloamaaGreatDoorSp09
import Derived.Test.YtlhjcdkkmloamaaGreatDoorSp18
import Derived.Test.YtlhjcdkkmloamaaGreatDoorShelf2
import Derived.Test.YtlhjcdkkmloamaaGreatDoorSp08
import Derived.Test.YtlhjcdkkmloamaaGreatDoorSp03
import Derived.Laws.RangeString
import Derived.Lib.MapLaws
import Derived.RegionTactic
import Derived.Deep.RegionHeld3
import Derived.Deep.LoopGhost
set_option linter.unusedSimpArgs false
namespace Go.Proofs.YtlhjcdkkmloamaaGreatDoor
open Go.RowKit
namespace Hx
open Lx Tr Tx Nmb Es
set_option maxRecDepth 100000
set_option maxHeartbeats 16000000
set_option linter.unusedVariables false
def ResTo (B gs base : Nat) (bb : Bool) (x : Except Int PS) (w : World) (e : Ending) (w' : World) : Prop := ∃ r : Int, e = .returned (.int .i64 r) ∧ Below B w w' ∧ match x with
  | .error q => r = q
  | .ok s => r = 0 ∧ ∃ (hi : Nat) (L : List NB) (Vn Vo : Value), L.map NB.n = s.V ∧ StkSt B gs base hi L s.O bb Vn Vo w'
theorem ResTo.err {B gs base : Nat} {bb : Bool} {w w' : World} {q : Int} (hb : Below B w w') : ResTo B gs base bb (.error q) w (.returned (.int .i64 q)) w' := ⟨q, rfl, hb, rfl⟩
theorem ResTo.good {B gs base hi : Nat} {bb : Bool} {w w' : World} {s : PS} {L : List NB} {O : List Nat} {Vn Vo : Value} (hb : Below B w w') (h1 : L.map NB.n = s.V) (h2 : O = s.O) (h : StkSt B gs base hi L O bb Vn Vo w') : ResTo B gs base bb (.ok s) w (.returned (.int .i64 0)) w' := ⟨0, rfl, hb, rfl, hi, L, Vn, Vo, h1, by rw [← h2]; exact h⟩
structure PSb (K : Nat) (s : PS) : Prop where
  len : s.V.length ≤ K
  dp : s.O.length ≤ 12
  pl : ∀ i ∈ s.O, i < s.V.length
  mm : ∀ n ∈ s.V, 0 ≤ n.many ∧ n.many ≤ (K : Int)
theorem PSb.nil : PSb 0 ⟨[], []⟩ := ⟨Nat.le_refl _, by decide, fun _ h => (by cases h), fun _ h => (by cases h)⟩
theorem pk_bump_many {O : List Nat} {V : List Nd} {K : Int} (h : ∀ n ∈ V, 0 ≤ n.many ∧ n.many ≤ K) : ∀ n ∈ bump O V, 0 ≤ n.many ∧ n.many ≤ K + 1 := by
  intro n hn
  unfold bump at hn
  split at hn
  · have := h n hn; omega
  · obtain ⟨j, hj, e⟩ := List.getElem_of_mem hn
    rw [List.getElem_modify] at e
    rw [List.length_modify] at hj
    have h9 := h _ (List.getElem_mem hj)
    split at e
    · rw [← e]
      show 0 ≤ _ + 1 ∧ _ + 1 ≤ _
      omega
    · rw [← e]; omega
theorem pk_bump_len (O : List Nat) (V : List Nd) : (bump O V).length = V.length := by
  unfold bump
  split
  · rfl
  · exact List.length_modify ..
theorem nodeT_many (t : Tk) : (nodeT t).many = 0 := by unfold nodeT; split <;> rfl
theorem PSb.more {K : Nat} {s : PS} {b : Bool} {t : Tk} {s' : PS} (h : PSb K s) (hs : stepP s b t = .ok s') : PSb (K + 1) s' := by
  have hnew : ∀ (n : Nd), (∀ m ∈ bump s.O s.V ++ [nodeT t], 0 ≤ m.many ∧ m.many ≤ ((K + 1 : Nat) : Int)) := fun _ m hm => by
    rcases List.mem_append.1 hm with hm | hm
    · have := pk_bump_many h.mm m hm; omega
    · obtain rfl := List.mem_singleton.1 hm
      rw [nodeT_many]
      omega
  have hl : (bump s.O s.V ++ [nodeT t]).length = s.V.length + 1 := by rw [List.length_append, pk_bump_len]; rfl
  have h1 := h.len
  have same : PSb (K + 1) s := ⟨by omega, h.dp, h.pl, fun n hn => by have := h.mm n hn; omega⟩
  unfold stepP at hs
  split at hs
  · split at hs
    · cases hs
    · split at hs
      · split at hs
        · injection hs with hs; subst hs; exact same
        · cases hs
      · injection hs with hs
        subst hs
        exact ⟨by rw [hl]; omega, h.dp, fun i hi => by rw [hl]; have := h.pl i hi; omega, hnew (nodeT t)⟩
  · split at hs
    · split at hs
      · cases hs
      · split at hs
        · injection hs with hs
          subst hs
          exact ⟨by show s.V.length ≤ _; omega, by show s.O.dropLast.length ≤ 12; rw [List.length_dropLast]; have := h.dp; omega, fun i hi => h.pl i (List.dropLast_subset _ hi), same.mm⟩
        · cases hs
    · split at hs
      · cases hs
      · split at hs
        · cases hs
        · rename_i h12
          injection hs with hs
          subst hs
          refine ⟨by rw [hl]; omega, ?_, ?_, hnew (nodeT t)⟩
          · show (if t.kind = 3 then s.O else s.O ++ [s.V.length]).length ≤ 12
            have := h.dp
            split
            · omega
            · rw [List.length_append, List.length_singleton]; omega
          · intro i hi
            have hi : i ∈ (if t.kind = 3 then s.O else s.O ++ [s.V.length]) := hi
            rw [hl]
            split at hi
            · have := h.pl i hi; omega
            · rcases List.mem_append.1 hi with hi | hi
              · have := h.pl i hi; omega
              · obtain rfl := List.mem_singleton.1 hi
                omega
structure StOf (B gs base : Nat) (s : PS) (bb : Bool) (wr : World) : Prop where
  ex : ∃ (hi : Nat) (L : List NB) (Vn Vo : Value), L.map NB.n = s.V ∧ StkSt B gs base hi L s.O bb Vn Vo wr
theorem ResTo.st {B gs base : Nat} {bb : Bool} {x : Except Int PS} {w w' : World} {e : Ending} (h : ResTo B gs base bb x w e w') : ∃ r : Int, e = .returned (.int .i64 r) ∧ Below B w w' ∧ match x with
  | .error q => r = q
  | .ok s => r = 0 ∧ StOf B gs base s bb w' := by
  obtain ⟨r, h1, h2, h3⟩ := h
  refine ⟨r, h1, h2, ?_⟩
  cases x with
  | error q => exact h3
  | ok s => exact ⟨h3.1, ⟨h3.2⟩⟩
theorem map_mm {L : List NB} {V : List Nd} {K : Nat} (hV : L.map NB.n = V) (h : ∀ n ∈ V, 0 ≤ n.many ∧ n.many ≤ (K : Int)) (hK : K ≤ 1000000) : ∀ b ∈ L, 0 ≤ b.n.many ∧ b.n.many ≤ 1000000 := fun b hb => by
  have := h b.n (by rw [← hV]; exact List.mem_map_of_mem hb)
  omega
theorem shut_res (B gs base : Nat) (s : PS) (bb b : Bool) (K : Nat) (t : Tk) (x : ByteArray) (w : World) (h : StOf B gs base s bb w) (hi : PSb K s) (hK : K ≤ 100000) (hx : x.data.toList = t.name) (ht : t.kind = 2) :
    Calls Tryz.prog 75 #[.pointer (some ⟨gs, 0, none⟩), .string x] w (ResTo B gs base bb (stepP s b t) w) := by
  obtain ⟨⟨hi2, L, Vn, Vo, hV, hst⟩⟩ := h
  have hLl : L.length = s.V.length := by rw [← hV, List.length_map]
  have h1 := hi.len
  have h2 := hi.dp
  have hab := hst.above
  rcases List.eq_nil_or_concat s.O with h0 | ⟨O1, i, h0⟩
  · have e : stepP s b t = .error 80 := by
      unfold stepP
      rw [if_neg (by omega), if_pos ht, h0]
      rfl
    rw [e]
    exact (stkshut_none B gs base hi2 L s.O bb Vn Vo x w hst (by omega) (by omega) h0).mono fun e w' h => by
      obtain ⟨rfl, hb⟩ := h
      exact ResTo.err (hb.mono hab.1)
  · rw [List.concat_eq_append] at h0
    have hil : i < L.length := by rw [hLl]; exact hi.pl i (by rw [h0]; simp)
    have hiv : i < s.V.length := by omega
    have hnm : (L[i]'hil).y.data.toList = (s.V[i]'hiv).name := by
      have := (hst.gr.inn _ (List.getElem_mem hil)).name
      rw [this]
      have e : (s.V[i]'hiv) = (L[i]'hil).n := by
        have : (L.map NB.n)[i]'(by rw [List.length_map]; exact hil) = (L[i]'hil).n := List.getElem_map ..
        rw [← this]
        congr 1
        exact hV.symm
      rw [e]
    have e : stepP s b t = if (s.V[i]'hiv).name = t.name then .ok ⟨s.V, s.O.dropLast⟩ else .error 80 := by
      unfold stepP
      rw [if_neg (by omega), if_pos ht, h0, List.getLast?_concat]
      dsimp only
      rw [List.getElem?_eq_getElem hiv]
      by_cases hn : (s.V[i]'hiv).name = t.name
      · rw [if_pos hn, if_pos (by rw [← hn]; rfl)]
      · rw [if_neg hn, if_neg (show ¬ (Option.map (fun x => x.name) (some (s.V[i]'hiv)) = some t.name) from fun h => hn (Option.some.inj h))]
    rw [e]
    refine (stkshut_some B gs base hi2 L s.O bb Vn Vo x w hst (by omega) (by omega) O1 i h0 hil _ rfl).mono fun e w' h => ?_
    by_cases hn : (s.V[i]'hiv).name = t.name
    · have hq : decide ((L[i]'hil).y = x) = true := decide_eq_true (by rw [ba_eq5 x, hx, ← hn, ← hnm, ← ba_eq5])
      rw [hq, if_pos rfl] at h
      rw [if_pos hn]
      obtain ⟨rfl, hb, Vo', hs⟩ := h
      exact ResTo.good hb hV rfl hs
    · have hq : decide ((L[i]'hil).y = x) = false := decide_eq_false fun e => hn (by rw [← hnm, e, hx])
      rw [hq, if_neg (by decide)] at h
      rw [if_neg hn]
      obtain ⟨rfl, hb⟩ := h
      exact ResTo.err (hb.mono hab.1)
theorem words_res (B gs base : Nat) (s : PS) (bb : Bool) (K : Nat) (t : Tk) (u : ByteArray) (w : World) (h : StOf B gs base s bb w) (hi : PSb K s) (hK : K ≤ 100000) (hx : u.data.toList = t.text) (hu : u.size ≤ 1000000) (ht : t.kind = 4) :
    Calls Tryz.prog 77 #[.pointer (some ⟨gs, 0, none⟩), .string u] w (ResTo B gs base bb (stepP s false t) w) := by
  obtain ⟨⟨hi2, L, Vn, Vo, hV, hst⟩⟩ := h
  have hLl : L.length = s.V.length := by rw [← hV, List.length_map]
  have h1 := hi.len
  have h2 := hi.dp
  have hab := hst.above
  by_cases h0 : s.O = []
  · have e : stepP s false t = if t.text.all blk = true then .ok s else .error 80 := by
      unfold stepP
      rw [if_pos ht, if_neg (by decide), if_pos h0]
    rw [e]
    refine (stkwords_none B gs base hi2 L s.O bb Vn Vo u w hst (by omega) (by omega) h0 hu _ rfl _ rfl).mono fun e w' h => ?_
    rw [hx] at h
    obtain ⟨rfl, hb⟩ := h
    by_cases hq : t.text.all blk = true
    · rw [if_pos hq, if_pos hq]
      exact ResTo.good (hb.mono hab.1) hV rfl (hst.below hb (Nat.le_refl _) (Nat.le_trans hst.gr.sz hb.size))
    · rw [if_neg hq, if_neg hq]
      exact ResTo.err (hb.mono hab.1)
  · have e : stepP s false t = .ok ⟨bump s.O s.V ++ [nodeT t], s.O⟩ := by
      unfold stepP
      rw [if_pos ht, if_neg (by decide), if_neg h0]
    rw [e]
    refine (stkwords_open B gs base hi2 L s.O bb Vn Vo u w hst (by omega) (by omega) h0 hu (fun i hi' => by rw [hLl]; exact hi.pl i hi') (map_mm hV hi.mm (by omega))).mono fun e w' h => ?_
    obtain ⟨rfl, hb, Vn', hs⟩ := h
    refine ResTo.good hb ?_ rfl hs
    rw [List.map_append, bumpL_map, hV]
    unfold nodeT
    rw [if_pos ht, ← hx]
    rfl
theorem begin_res (B gs base : Nat) (s : PS) (bb b : Bool) (K : Nat) (t : Tk) (x u : ByteArray) (A : Option Addr) (cp : Nat) (w : World) (h : StOf B gs base s bb w) (hi : PSb K s) (hK : K ≤ 100000) (htk : TkAt t x u A cp w) (ht : t.kind = 1 ∨ t.kind = 3) :
    Calls Tryz.prog 76 #[.pointer (some ⟨gs, 0, none⟩), TkV t x u A cp] w (ResTo B gs base bb (stepP s b t) w) := by
  obtain ⟨⟨hi2, L, Vn, Vo, hV, hst⟩⟩ := h
  have hLl : L.length = s.V.length := by rw [← hV, List.length_map]
  have h1 := hi.len
  have h2 := hi.dp
  have hab := hst.above
  have e : stepP s b t = if s.O = [] ∧ s.V ≠ [] then .error 80 else if s.O.length = 12 then .error 100 else .ok ⟨bump s.O s.V ++ [nodeT t], if t.kind = 3 then s.O else s.O ++ [s.V.length]⟩ := by
    unfold stepP
    rw [if_neg (by omega), if_neg (by omega)]
  rw [e]
  have hLV : L = [] ↔ s.V = [] := by rw [← List.length_eq_zero_iff, ← List.length_eq_zero_iff, hLl]
  have good : ∀ (e : Ending) (w' : World), (e = .returned (.int .i64 0) ∧ Below B w w' ∧ BgOut B gs base L s.O bb t w') → ResTo B gs base bb (.ok ⟨bump s.O s.V ++ [nodeT t], if t.kind = 3 then s.O else s.O ++ [s.V.length]⟩) w e w' := by
    rintro e w' ⟨rfl, hb, hi3, b3, Vn2, Vo2, hb3, hs⟩
    refine ResTo.good hb ?_ rfl (by rw [hLl] at hs; exact hs)
    rw [List.map_append, bumpL_map, hV]
    show _ ++ [b3.n] = _
    rw [hb3]
  by_cases hg : s.O = [] ∧ s.V ≠ []
  · rw [if_pos hg]
    exact (stkbegin_xml B gs base hi2 L s.O bb Vn Vo t x u A cp w hst htk hg.1 (fun e => hg.2 (hLV.1 e)) (by omega)).mono fun e w' h => by
      obtain ⟨rfl, hb⟩ := h
      exact ResTo.err (hb.mono hab.1)
  · rw [if_neg hg]
    by_cases h12 : s.O.length = 12
    · rw [if_pos h12]
      exact (stkbegin_deep B gs base hi2 L s.O bb Vn Vo t x u A cp w hst htk h12 (by omega)).mono fun e w' h => by
        obtain ⟨rfl, hb⟩ := h
        exact ResTo.err (hb.mono hab.1)
    · rw [if_neg h12]
      by_cases h0 : s.O = []
      · have hV0 : s.V = [] := by
          by_cases hv : s.V = []
          · exact hv
          · exact absurd ⟨h0, hv⟩ hg
        exact (stkbegin_ok0 B gs base hi2 L s.O bb Vn Vo t x u A cp w hst htk ⟨h0, hLV.2 hV0⟩ (by omega) (by omega) (fun i hi' => by rw [hLl]; exact hi.pl i hi') (map_mm hV hi.mm (by omega)) ht).mono fun e w' h => good e w' h
      · exact (stkbegin_ok1 B gs base hi2 L s.O bb Vn Vo t x u A cp w hst htk h0 (by omega) (by omega) (fun i hi' => by rw [hLl]; exact hi.pl i hi') (map_mm hV hi.mm (by omega)) ht).mono fun e w' h => good e w' h
theorem StOf.put2 {B gs base : Nat} {s : PS} {bb c : Bool} {w W0 : World} (h : StOf B gs base s bb w) (hb : Below w.heap.size w W0) : StOf B gs base s c (W0.setCell ⟨gs, 2, none⟩ (.bool c)) ∧ Below B w (W0.setCell ⟨gs, 2, none⟩ (.bool c)) ∧ ∀ k, k < w.heap.size → k ≠ gs → (W0.setCell ⟨gs, 2, none⟩ (.bool c)).heap[k]? = w.heap[k]? := by
  obtain ⟨⟨hi2, L, Vn, Vo, hV, hst⟩⟩ := h
  have hab := hst.above
  have h2 := hst.below hb (Nat.le_refl _) (Nat.le_trans hst.gr.sz hb.size)
  have hlo := hst.lo
  have hoth : ∀ q, q ≠ gs → (W0.setCell ⟨gs, 2, none⟩ (.bool c)).heap[q]? = W0.heap[q]? := fun q hq => heap_setCell_other _ _ _ _ hq
  exact ⟨⟨hi2, L, Vn, Vo, hV, heap_setCell_same W0 gs 2 _ _ _ h2.box, h2.gr.keep (fun q hq _ => hoth q (by omega)) (Nat.le_refl _) (by have := h2.gr.sz; simpa [World.setCell] using this), hst.lo⟩, (hb.mono hab.1).setCell (p := ⟨gs, 2, none⟩) hlo.1 _, fun k hk hne => (hoth k hne).trans (hb.block k hk)⟩
theorem infoTkP : (Tryz.prog.info? 84).map (·.size) = some 4 := by kernel_rfl
theorem StOf.cells {B gs base : Nat} {s : PS} {bb : Bool} {w : World} (h : StOf B gs base s bb w) : ∃ Vn Vo, w.heap[gs]? = some (.cells #[Vn, Vo, .bool bb] 90 (0, 0)) ∧ B ≤ gs ∧ gs < w.heap.size := by
  obtain ⟨⟨hi2, L, Vn, Vo, hV, hst⟩⟩ := h
  exact ⟨Vn, Vo, hst.box, hst.lo.1, hst.above.2.1⟩
theorem stktake_shut (B gs base : Nat) (s : PS) (bb : Bool) (K : Nat) (t : Tk) (x u : ByteArray) (A : Option Addr) (cp : Nat) (w : World) (h : StOf B gs base s bb w) (hi : PSb K s) (hK : K ≤ 100000) (ht : TkAt t x u A cp w) (hBl : TkAt t x u A cp w → ∀ W, (∀ k, k < B → W.heap[k]? = w.heap[k]?) → w.heap.size ≤ W.heap.size → TkAt t x u A cp W) (hk : t.kind = 2) :
    Calls Tryz.prog 58 #[.pointer (some ⟨gs, 0, none⟩), TkV t x u A cp] w (ResTo B gs base false (stepP s bb t) w) := by
  obtain ⟨na, hna⟩ : ∃ na, t.attrs.length = na := ⟨_, rfl⟩
  obtain ⟨Vn, Vo, hbox, hgs1, hgs2⟩ := h.cells
  have ht0 : ((2 : Nat) : Int) = 2 := rfl
  unfold TkV
  rw [hna, hk, ht0]
  obtain ⟨W0, hW0⟩ : ∃ W0, w.alloc (.cells #[.int .u8 2, .string x, .slice A na cp, .string u] 84) = W0 := ⟨_, rfl⟩
  have HBE : Hid (Below w.heap.size w W0) := Lib.hid (by rw [← hW0]; exact stpA (Below.refl _ _) _)
  have HTB : Hid (W0.heap[w.heap.size]? = some (.cells #[.int .u8 2, .string x, .slice A na cp, .string u] 84 (0, 0))) := Lib.hid (by rw [← hW0]; exact heap_alloc_new _ _)
  obtain ⟨hp1, hp2, hp3⟩ := h.put2 (c := false) HBE.out
  obtain ⟨W1, hW1⟩ : ∃ W1, W0.setCell ⟨gs, 2, none⟩ (.bool false) = W1 := ⟨_, rfl⟩
  rw [hW1] at hp1 hp2 hp3
  have g2 := cellV W0 _ 2 _ _ _ (kept_heap hbox HBE.out)
  have f2 := freeV W0 gs 2 _ _ (kept_heap hbox HBE.out)
  have t0 := cellV W0 _ 0 _ _ _ HTB.out
  have htb1 : W1.heap[w.heap.size]? = some (.cells #[.int .u8 2, .string x, .slice A na cp, .string u] 84 (0, 0)) := by rw [← hW1]; exact (heap_setCell_other _ _ _ _ (by show w.heap.size ≠ gs; omega)).trans HTB.out
  have HTB1 := Lib.hid htb1
  have u0 := cellV W1 _ 0 _ _ _ htb1
  have u1 := cellV W1 _ 1 _ _ _ htb1
  have u3 := cellV W1 _ 3 _ _ _ htb1
  obtain ⟨Vn1, Vo1, hbox1, _, _⟩ := hp1.cells
  have v2 := cellV W1 _ 2 _ _ _ hbox1
  have HBB := Lib.hid hp2
  have HC := Lib.hid (shut_res B gs base s false bb K t x W1 hp1 hi hK ht.name hk)
  clear h hi ht hbox hp1 hp2 hp3 htb1 hbox1 hBl
  go_enter Tryz.func58, Tryz.ntmps58
  go_wp2_with (first
    | (go_at_call 75; (try rw [hW1]); (with_reducible refine (HC.out).mono ?_); rintro e5 w5 ⟨r, rfl, hb5, hx5⟩)
    | fail)
  go_ret
  exact ⟨r, rfl, HBB.out.trans hb5, hx5⟩
theorem stktake_two (B gs base : Nat) (s : PS) (bb : Bool) (K : Nat) (t : Tk) (x u : ByteArray) (A : Option Addr) (cp : Nat) (w : World) (h : StOf B gs base s bb w) (hi : PSb K s) (hK : K ≤ 100000) (ht : TkAt t x u A cp w) (hBl : TkAt t x u A cp w → ∀ W, (∀ k, k < B → W.heap[k]? = w.heap[k]?) → w.heap.size ≤ W.heap.size → TkAt t x u A cp W) (hk : t.kind = 4) (hbb : bb = true) :
    Calls Tryz.prog 58 #[.pointer (some ⟨gs, 0, none⟩), TkV t x u A cp] w (ResTo B gs base true (stepP s bb t) w) := by
  obtain ⟨na, hna⟩ : ∃ na, t.attrs.length = na := ⟨_, rfl⟩
  obtain ⟨Vn, Vo, hbox, hgs1, hgs2⟩ := h.cells
  have ht0 : ((4 : Nat) : Int) = 4 := rfl
  subst hbb
  unfold TkV
  rw [hna, hk, ht0]
  obtain ⟨W0, hW0⟩ : ∃ W0, w.alloc (.cells #[.int .u8 4, .string x, .slice A na cp, .string u] 84) = W0 := ⟨_, rfl⟩
  have HBE : Hid (Below w.heap.size w W0) := Lib.hid (by rw [← hW0]; exact stpA (Below.refl _ _) _)
  have HTB : Hid (W0.heap[w.heap.size]? = some (.cells #[.int .u8 4, .string x, .slice A na cp, .string u] 84 (0, 0))) := Lib.hid (by rw [← hW0]; exact heap_alloc_new _ _)
  obtain ⟨hp1, hp2, hp3⟩ := h.put2 (c := true) HBE.out
  obtain ⟨W1, hW1⟩ : ∃ W1, W0.setCell ⟨gs, 2, none⟩ (.bool true) = W1 := ⟨_, rfl⟩
  rw [hW1] at hp1 hp2 hp3
  have g2 := cellV W0 _ 2 _ _ _ (kept_heap hbox HBE.out)
  have f2 := freeV W0 gs 2 _ _ (kept_heap hbox HBE.out)
  have t0 := cellV W0 _ 0 _ _ _ HTB.out
  have htb1 : W1.heap[w.heap.size]? = some (.cells #[.int .u8 4, .string x, .slice A na cp, .string u] 84 (0, 0)) := by rw [← hW1]; exact (heap_setCell_other _ _ _ _ (by show w.heap.size ≠ gs; omega)).trans HTB.out
  have HTB1 := Lib.hid htb1
  have u0 := cellV W1 _ 0 _ _ _ htb1
  have u1 := cellV W1 _ 1 _ _ _ htb1
  have u3 := cellV W1 _ 3 _ _ _ htb1
  obtain ⟨Vn1, Vo1, hbox1, _, _⟩ := hp1.cells
  have v2 := cellV W1 _ 2 _ _ _ hbox1
  have HBB := Lib.hid hp2
  have hse : stepP s true t = .error 80 := by unfold stepP; rw [if_pos hk, if_pos rfl]
  rw [hse]
  clear h hi ht hbox hp1 hp2 hp3 htb1 hbox1 hBl
  go_enter Tryz.func58, Tryz.ntmps58
  go_wp2_with (first
    | fail)
  go_ret
  (try rw [hW1])
  exact ResTo.err HBB.out
theorem stktake_words (B gs base : Nat) (s : PS) (bb : Bool) (K : Nat) (t : Tk) (x u : ByteArray) (A : Option Addr) (cp : Nat) (w : World) (h : StOf B gs base s bb w) (hi : PSb K s) (hK : K ≤ 100000) (ht : TkAt t x u A cp w) (hBl : TkAt t x u A cp w → ∀ W, (∀ k, k < B → W.heap[k]? = w.heap[k]?) → w.heap.size ≤ W.heap.size → TkAt t x u A cp W) (hk : t.kind = 4) (hbb : bb = false) :
    Calls Tryz.prog 58 #[.pointer (some ⟨gs, 0, none⟩), TkV t x u A cp] w (ResTo B gs base true (stepP s bb t) w) := by
  obtain ⟨na, hna⟩ : ∃ na, t.attrs.length = na := ⟨_, rfl⟩
  obtain ⟨Vn, Vo, hbox, hgs1, hgs2⟩ := h.cells
  have ht0 : ((4 : Nat) : Int) = 4 := rfl
  subst hbb
  unfold TkV
  rw [hna, hk, ht0]
  obtain ⟨W0, hW0⟩ : ∃ W0, w.alloc (.cells #[.int .u8 4, .string x, .slice A na cp, .string u] 84) = W0 := ⟨_, rfl⟩
  have HBE : Hid (Below w.heap.size w W0) := Lib.hid (by rw [← hW0]; exact stpA (Below.refl _ _) _)
  have HTB : Hid (W0.heap[w.heap.size]? = some (.cells #[.int .u8 4, .string x, .slice A na cp, .string u] 84 (0, 0))) := Lib.hid (by rw [← hW0]; exact heap_alloc_new _ _)
  obtain ⟨hp1, hp2, hp3⟩ := h.put2 (c := true) HBE.out
  obtain ⟨W1, hW1⟩ : ∃ W1, W0.setCell ⟨gs, 2, none⟩ (.bool true) = W1 := ⟨_, rfl⟩
  rw [hW1] at hp1 hp2 hp3
  have g2 := cellV W0 _ 2 _ _ _ (kept_heap hbox HBE.out)
  have f2 := freeV W0 gs 2 _ _ (kept_heap hbox HBE.out)
  have t0 := cellV W0 _ 0 _ _ _ HTB.out
  have htb1 : W1.heap[w.heap.size]? = some (.cells #[.int .u8 4, .string x, .slice A na cp, .string u] 84 (0, 0)) := by rw [← hW1]; exact (heap_setCell_other _ _ _ _ (by show w.heap.size ≠ gs; omega)).trans HTB.out
  have HTB1 := Lib.hid htb1
  have u0 := cellV W1 _ 0 _ _ _ htb1
  have u1 := cellV W1 _ 1 _ _ _ htb1
  have u3 := cellV W1 _ 3 _ _ _ htb1
  obtain ⟨Vn1, Vo1, hbox1, _, _⟩ := hp1.cells
  have v2 := cellV W1 _ 2 _ _ _ hbox1
  have HBB := Lib.hid hp2
  have HC := Lib.hid (words_res B gs base s true K t u W1 hp1 hi hK ht.text ht.us hk)
  clear h hi ht hbox hp1 hp2 hp3 htb1 hbox1 hBl
  go_enter Tryz.func58, Tryz.ntmps58
  go_wp2_with (first
    | (go_at_call 77; (try rw [hW1]); (with_reducible refine (HC.out).mono ?_); rintro e5 w5 ⟨r, rfl, hb5, hx5⟩)
    | fail)
  go_ret
  exact ⟨r, rfl, HBB.out.trans hb5, hx5⟩
theorem stktake_begin (B gs base : Nat) (s : PS) (bb : Bool) (K : Nat) (t : Tk) (x u : ByteArray) (A : Option Addr) (cp : Nat) (w : World) (h : StOf B gs base s bb w) (hi : PSb K s) (hK : K ≤ 100000) (ht : TkAt t x u A cp w) (hBl : TkAt t x u A cp w → ∀ W, (∀ k, k < B → W.heap[k]? = w.heap[k]?) → w.heap.size ≤ W.heap.size → TkAt t x u A cp W) (hk : t.kind = 1 ∨ t.kind = 3) :
    Calls Tryz.prog 58 #[.pointer (some ⟨gs, 0, none⟩), TkV t x u A cp] w (ResTo B gs base false (stepP s bb t) w) := by
  obtain ⟨na, hna⟩ : ∃ na, t.attrs.length = na := ⟨_, rfl⟩
  obtain ⟨Vn, Vo, hbox, hgs1, hgs2⟩ := h.cells
  obtain ⟨tk, htk⟩ : ∃ tk, t.kind = tk := ⟨_, rfl⟩
  have bt1 : ((tk : Int) == 2) = false := by simp; omega
  have bt2 : ((tk : Int) == 4) = false := by simp; omega
  have bt3 : ¬ (tk : Int) = 2 := by omega
  have bt4 : ¬ (tk : Int) = 4 := by omega
  unfold TkV
  rw [hna, htk]
  obtain ⟨W0, hW0⟩ : ∃ W0, w.alloc (.cells #[.int .u8 (tk : Int), .string x, .slice A na cp, .string u] 84) = W0 := ⟨_, rfl⟩
  have HBE : Hid (Below w.heap.size w W0) := Lib.hid (by rw [← hW0]; exact stpA (Below.refl _ _) _)
  have HTB : Hid (W0.heap[w.heap.size]? = some (.cells #[.int .u8 (tk : Int), .string x, .slice A na cp, .string u] 84 (0, 0))) := Lib.hid (by rw [← hW0]; exact heap_alloc_new _ _)
  obtain ⟨hp1, hp2, hp3⟩ := h.put2 (c := false) HBE.out
  obtain ⟨W1, hW1⟩ : ∃ W1, W0.setCell ⟨gs, 2, none⟩ (.bool false) = W1 := ⟨_, rfl⟩
  rw [hW1] at hp1 hp2 hp3
  have g2 := cellV W0 _ 2 _ _ _ (kept_heap hbox HBE.out)
  have f2 := freeV W0 gs 2 _ _ (kept_heap hbox HBE.out)
  have t0 := cellV W0 _ 0 _ _ _ HTB.out
  have htb1 : W1.heap[w.heap.size]? = some (.cells #[.int .u8 (tk : Int), .string x, .slice A na cp, .string u] 84 (0, 0)) := by rw [← hW1]; exact (heap_setCell_other _ _ _ _ (by show w.heap.size ≠ gs; omega)).trans HTB.out
  have HTB1 := Lib.hid htb1
  have u0 := cellV W1 _ 0 _ _ _ htb1
  have u1 := cellV W1 _ 1 _ _ _ htb1
  have u3 := cellV W1 _ 3 _ _ _ htb1
  obtain ⟨Vn1, Vo1, hbox1, _, _⟩ := hp1.cells
  have v2 := cellV W1 _ 2 _ _ _ hbox1
  have HBB := Lib.hid hp2
  have HC := Lib.hid (begin_res B gs base s false bb K t x u A cp W1 hp1 hi hK (hBl ht W1 (fun k hk => hp3 k (by omega) (by omega)) (by rw [← hW1]; have := HBE.out.size; simpa [World.setCell] using this)) hk)
  unfold TkV at HC
  rw [hna, htk] at HC
  clear h hi ht hbox hp1 hp2 hp3 htb1 hbox1 hBl
  go_enter Tryz.func58, Tryz.ntmps58
  go_wp2_with (first
    | (go_at_call 76; (try rw [hW1]); (with_reducible refine (HC.out).mono ?_); rintro e5 w5 ⟨r, rfl, hb5, hx5⟩)
    | (refine wpList_load_row rfl _ _ rfl w.heap.size rfl 84 #[.int .u8 (tk : Int), .string x, .slice A na cp, .string u] (0, 0) _ HTB1.out Tryz.underlying84 rfl infoTkP ?_)
    | fail)
  go_ret
  exact ⟨r, rfl, HBB.out.trans hb5, hx5⟩
theorem tk_atB {w : World} {B : Nat} {A : Option Addr} {l : List Tk} {k : Nat} (hr : RdC TkC w B A l) (hk : k < l.length) (hs : Small (l[k]'hk)) :
    ∃ (b off : Nat) (x u : ByteArray) (A1 : Option Addr) (p1 : Nat), A = some ⟨b, off, none⟩ ∧ b < B ∧ w.cell? ⟨b, off + k * 4, none⟩ = some (.int .u8 ((l[k]'hk).kind : Int)) ∧ w.cell? ⟨b, off + k * 4 + 1, none⟩ = some (.string x) ∧
      w.cell? ⟨b, off + k * 4 + 2, none⟩ = some (.slice A1 (l[k]'hk).attrs.length p1) ∧ w.cell? ⟨b, off + k * 4 + 3, none⟩ = some (.string u) ∧ ∀ W : World, (∀ q, q < B → W.heap[q]? = w.heap[q]?) → B ≤ W.heap.size → TkAt (l[k]'hk) x u A1 p1 W := by
  obtain ⟨b, off, e, hb, hc⟩ := hr (by omega)
  obtain ⟨cs, ⟨x, A1, p1, u, rfl, hkd, hx, hu, hle, hmx, hnl, hrd⟩, hcell⟩ := hc k hk
  obtain ⟨s1, s2, s3, s4⟩ := hs
  refine ⟨b, off, x, u, A1, p1, e, hb, hcell 0 (by simp), hcell 1 (by simp), hcell 2 (by simp), hcell 3 (by simp), fun W hW hB => ⟨hx, hu, hrd.keep hB fun b o hb => cell_blkP (hW b hb), hle, ?_, ?_, s3, s4⟩⟩
  · rw [← ba_len5, hx]; exact s1
  · rw [← ba_len5, hu]; exact s2
theorem pk_mayT_kind {t : Tk} (h : mayT t = true) : t.kind = 1 ∨ t.kind = 2 ∨ t.kind = 3 ∨ t.kind = 4 := by
  unfold mayT at h
  split at h
  · omega
  · split at h
    · omega
    · split at h
      · omega
      · cases h
theorem stktake (B gs base : Nat) (s : PS) (bb : Bool) (K : Nat) (t : Tk) (x u : ByteArray) (A : Option Addr) (cp : Nat) (w : World) (h : StOf B gs base s bb w) (hi : PSb K s) (hK : K ≤ 100000) (ht : TkAt t x u A cp w) (hBl : ∀ W, (∀ k, k < B → W.heap[k]? = w.heap[k]?) → w.heap.size ≤ W.heap.size → TkAt t x u A cp W) (hk : t.kind = 1 ∨ t.kind = 2 ∨ t.kind = 3 ∨ t.kind = 4) :
    Calls Tryz.prog 58 #[.pointer (some ⟨gs, 0, none⟩), TkV t x u A cp] w (ResTo B gs base (decide (t.kind = 4)) (stepP s bb t) w) := by
  rcases hk with hk | hk | hk | hk
  · rw [decide_eq_false (by omega)]
    exact stktake_begin B gs base s bb K t x u A cp w h hi hK ht (fun _ => hBl) (.inl hk)
  · rw [decide_eq_false (by omega)]
    exact stktake_shut B gs base s bb K t x u A cp w h hi hK ht (fun _ => hBl) hk
  · rw [decide_eq_false (by omega)]
    exact stktake_begin B gs base s bb K t x u A cp w h hi hK ht (fun _ => hBl) (.inr hk)
  · rw [decide_eq_true hk]
    cases bb with
    | true => exact stktake_two B gs base s true K t x u A cp w h hi hK ht (fun _ => hBl) hk rfl
    | false => exact stktake_words B gs base s false K t x u A cp w h hi hK ht (fun _ => hBl) hk rfl
def EachTo (B gs base : Nat) (x : Except Int PS) (w : World) (e : Ending) (w' : World) : Prop := ∃ r : Int, e = .returned (.int .i64 r) ∧ Below B w w' ∧ match x with
  | .error q => r = q ∧ r ≠ 0
  | .ok s => r = 0 ∧ ∃ b, StOf B gs base s b w'
theorem each_take (B gs base : Nat) (K : Nat) (s0 : PS) (b0' : Bool) (ts : List Tk) (A : Option Addr) (n c : Nat) (w : World) (h : StOf B gs base s0 b0' w) (hi : PSb K s0) (hK : K + n ≤ 100000) (hn : ts.length = n) (hrd : RdC TkC w B A ts) (hBz : B ≤ w.heap.size) (hsm : ∀ t ∈ ts, Small t) (hkd : ∀ t ∈ ts, t.kind = 1 ∨ t.kind = 2 ∨ t.kind = 3 ∨ t.kind = 4) :
    Calls Tryz.prog 56 #[.slice A n c, .func (.func 58) #[.pointer (some ⟨gs, 0, none⟩)] #[]] w (EachTo B gs base (runP s0 b0' ts) w) := by
  have HST := Lib.hid h
  have HPS := Lib.hid hi
  have HN := Lib.hid hn
  have HRD := Lib.hid hrd
  have HBZ := Lib.hid hBz
  have HSM := Lib.hid hsm
  have HKD := Lib.hid hkd
  have bK : (K : Int) + (n : Int) ≤ 100000 := by omega
  clear h hi hn hrd hBz hsm hkd
  go_enter Tryz.func56, Tryz.ntmps56
  go_wp2_with fail
  go_loopg [10] n (fun gg i wr => ∃ (j : Nat) (s : PS) (bb : Bool), j + gg = n ∧ i = .int .i64 j ∧ runP s0 b0' ts = runP s bb (ts.drop j) ∧ StOf B gs base s bb wr ∧ PSb (K + j) s ∧ Below B w wr)
  case atStart => exact ⟨0, s0, b0', by omega, rfl, by rw [List.drop_zero], HST.out, HPS.out, Below.refl _ _⟩
  case round =>
    obtain ⟨j, s, bb, hjg, rfl, hrun, hst0, hps, hbw⟩ := hrel
    have HBW := Lib.hid hbw
    have HRUN := Lib.hid hrun
    by_cases hlt : j < n
    · have hlt2 : (j : Int) < (n : Int) := by omega
      have hjl : j < ts.length := by rw [HN.out]; exact hlt
      have hsj := HSM.out _ (List.getElem_mem hjl)
      have hkj := HKD.out _ (List.getElem_mem hjl)
      obtain ⟨b0, off, x, u, A1, p1, hA, hb0, hc0, hc1, hc2, hc3, hTA⟩ := tk_atB HRD.out hjl hsj
      obtain ⟨t, ht⟩ : ∃ t, ts[j]'hjl = t := ⟨_, rfl⟩
      rw [ht] at hc0 hc2 hTA hkj
      obtain ⟨na, hna⟩ : ∃ na, t.attrs.length = na := ⟨_, rfl⟩
      obtain ⟨kd, hkd⟩ : ∃ kd, t.kind = kd := ⟨_, rfl⟩
      rw [hkd] at hc0
      rw [hna] at hc2
      have hst : ∀ o, wr.cell? ⟨b0, o, none⟩ = w.cell? ⟨b0, o, none⟩ := fun o => cell_blkP (HBW.out.block b0 hb0)
      have q0 := (hst _).trans hc0
      have q1 := (hst _).trans hc1
      have q2 := (hst _).trans hc2
      have q3 := (hst _).trans hc3
      obtain ⟨W4, hW4⟩ : ∃ W4, wr.alloc (.cells #[.int .u8 (kd : Int), .string x, .slice A1 na p1, .string u] 84) = W4 := ⟨_, rfl⟩
      have HB4 : Hid (Below wr.heap.size wr W4) := Lib.hid (by rw [← hW4]; exact stpA (Below.refl _ _) _)
      have HX4 : Hid (W4.heap[wr.heap.size]? = some (.cells #[.int .u8 (kd : Int), .string x, .slice A1 na p1, .string u] 84 (0, 0))) := Lib.hid (by rw [← hW4]; exact heap_alloc_new wr _)
      have hW4B : Below B w W4 := HBW.out.trans (HB4.out.mono (Nat.le_trans HBZ.out HBW.out.size))
      have hdr := List.drop_eq_getElem_cons hjl
      rw [ht] at hdr
      have hTA4 : ∀ W, (∀ k, k < B → W.heap[k]? = W4.heap[k]?) → W4.heap.size ≤ W.heap.size → TkAt t x u A1 p1 W := fun W h1 h2 => hTA W (fun q hq => (h1 q hq).trans (hW4B.block q hq)) (Nat.le_trans (Nat.le_trans HBZ.out hW4B.size) h2)
      have hs4 : StOf B gs base s bb W4 := by
        obtain ⟨⟨hi2, L, Vn, Vo, hV, hs⟩⟩ := hst0
        exact ⟨hi2, L, Vn, Vo, hV, hs.below HB4.out (Nat.le_refl _) (Nat.le_trans hs.gr.sz HB4.out.size)⟩
      have HC0 := stktake B gs base s bb (K + j) t x u A1 p1 W4 hs4 hps (by omega) (hTA4 W4 (fun _ _ => rfl) (Nat.le_refl _)) hTA4 hkj
      have HBB := Lib.hid hW4B
      rw [hdr] at hrun
      unfold TkV at HC0
      rw [hna, hkd] at HC0
      subst hA
      cases hx : stepP s bb t with
      | error q =>
        have HC := Lib.hid (HC0.mono (R' := fun e w' => e = .returned (.int .i64 q) ∧ Below B W4 w') fun e w' h => by
          obtain ⟨r, h1, h2, h3⟩ := h
          rw [hx] at h3
          exact ⟨by rw [h1, h3], h2⟩)
        have hq0 : q ≠ 0 := by rcases stepP_err hx with h | h <;> omega
        have fq : (q == 0) = false := by simp; omega
        have HR : Hid (runP s0 b0' ts = .error q) := Lib.hid (by rw [hrun, runP, hx])
        clear hsj hkj hc0 hc1 hc2 hc3 hTA hna hst hW4B hdr hTA4 hs4 hst0 hps hbw hrun HRUN hb0 HC0 hx
        go_wp2_with (first
          | (refine wpList_load_row rfl _ _ rfl wr.heap.size rfl 84 #[.int .u8 (kd : Int), .string x, .slice A1 na p1, .string u] (0, 0) _ HX4.out Tryz.underlying84 rfl infoTkP ?_)
          | (go_at_call 58; (with_reducible refine (HC.out).mono ?_); rintro e5 w5 ⟨rfl, hb5⟩; have HB5 := Lib.hid (HBB.out.trans hb5); clear hb5)
          | fail)
        go_ret
        rw [HR.out]
        exact ⟨q, rfl, HB5.out, rfl, hq0⟩
      | ok s' =>
        have HC := Lib.hid (HC0.mono (R' := fun e w' => e = .returned (.int .i64 0) ∧ Below B W4 w' ∧ StOf B gs base s' (decide (t.kind = 4)) w') fun e w' h => by
          obtain ⟨r, h1, h2, h3⟩ := h
          rw [hx] at h3
          exact ⟨by rw [h1, h3.1], h2, by rw [hkd]; exact ⟨h3.2⟩⟩)
        have HR : Hid (runP s0 b0' ts = runP s' (decide (t.kind = 4)) (ts.drop (j + 1))) := Lib.hid (by rw [hrun, runP, hx])
        have HMORE : Hid (PSb (K + (j + 1)) s') := Lib.hid (hps.more hx)
        clear hsj hkj hc0 hc1 hc2 hc3 hTA hna hst hW4B hdr hTA4 hs4 hst0 hps hbw hrun HRUN hb0 HC0 hx
        go_wp2_with (first
          | (refine wpList_load_row rfl _ _ rfl wr.heap.size rfl 84 #[.int .u8 (kd : Int), .string x, .slice A1 na p1, .string u] (0, 0) _ HX4.out Tryz.underlying84 rfl infoTkP ?_)
          | (go_at_call 58; (with_reducible refine (HC.out).mono ?_); rintro e5 w5 ⟨rfl, hb5, hs5⟩; have HB5 := Lib.hid (HBB.out.trans hb5); have HS5 := Lib.hid hs5; clear hb5 hs5)
          | fail)
        go_roundg (gk - 1)
        case measure => omega
        case rel => exact ⟨j + 1, s', _, by omega, by go_num, HR.out, HS5.out, HMORE.out, HB5.out⟩
    · obtain rfl : j = n := by omega
      have hjj : ¬ ((j : Int) < (j : Int)) := by omega
      rw [List.drop_of_length_le (by rw [HN.out]; exact Nat.le_refl _), runP] at hrun
      have HR := Lib.hid hrun
      have HS := Lib.hid hst0
      clear hst0 hps hbw hrun
      go_wp2_with fail
      go_ret
      rw [HR.out]
      exact ⟨0, rfl, HBW.out, rfl, bb, HS.out⟩
theorem each_check (ts : List Tk) (A : Option Addr) (n c : Nat) (w : World) (hn : ts.length = n) (hm : n ≤ 100000) (hr : RdC TkC w w.heap.size A ts) (hsm : ∀ t ∈ ts, Small t) (q : Int) (hq : (if ts.all mayT = true then (0 : Int) else 8) = q) :
    Calls Tryz.prog 56 #[.slice A n c, .func (.func 57) #[] #[]] w fun e w' => e = .returned (.int .i64 q) ∧ Below w.heap.size w w' := by
  have HN := Lib.hid hn
  have HRD := Lib.hid hr
  have HSM := Lib.hid hsm
  have HQ := Lib.hid hq
  have bn : (n : Int) ≤ 100000 := by omega
  clear hn hr hsm hq
  go_enter Tryz.func56, Tryz.ntmps56
  go_wp2_with fail
  go_loopg [10] n (fun gg i wr => ∃ j : Nat, j + gg = n ∧ i = .int .i64 j ∧ (ts.take j).all mayT = true ∧ Below w.heap.size w wr)
  case atStart => exact ⟨0, by omega, rfl, rfl, Below.refl _ _⟩
  case round =>
    obtain ⟨j, hjg, rfl, hall, hbw⟩ := hrel
    have HBW := Lib.hid hbw
    have HBZ : Hid (w.heap.size ≤ w.heap.size) := Lib.hid (Nat.le_refl _)
    by_cases hlt : j < n
    · have hlt2 : (j : Int) < (n : Int) := by omega
      have hjl : j < ts.length := by rw [HN.out]; exact hlt
      have hsj := HSM.out _ (List.getElem_mem hjl)
      obtain ⟨b0, off, x, u, A1, p1, hA, hb0, hc0, hc1, hc2, hc3, hTA⟩ := tk_atB HRD.out hjl hsj
      obtain ⟨t, ht⟩ : ∃ t, ts[j]'hjl = t := ⟨_, rfl⟩
      rw [ht] at hc0 hc2 hTA
      obtain ⟨na, hna⟩ : ∃ na, t.attrs.length = na := ⟨_, rfl⟩
      obtain ⟨kd, hkd⟩ : ∃ kd, t.kind = kd := ⟨_, rfl⟩
      rw [hkd] at hc0
      rw [hna] at hc2
      have hst : ∀ o, wr.cell? ⟨b0, o, none⟩ = w.cell? ⟨b0, o, none⟩ := fun o => cell_blkP (HBW.out.block b0 hb0)
      have q0 := (hst _).trans hc0
      have q1 := (hst _).trans hc1
      have q2 := (hst _).trans hc2
      have q3 := (hst _).trans hc3
      obtain ⟨W4, hW4⟩ : ∃ W4, wr.alloc (.cells #[.int .u8 (kd : Int), .string x, .slice A1 na p1, .string u] 84) = W4 := ⟨_, rfl⟩
      have HB4 : Hid (Below wr.heap.size wr W4) := Lib.hid (by rw [← hW4]; exact stpA (Below.refl _ _) _)
      have HX4 : Hid (W4.heap[wr.heap.size]? = some (.cells #[.int .u8 (kd : Int), .string x, .slice A1 na p1, .string u] 84 (0, 0))) := Lib.hid (by rw [← hW4]; exact heap_alloc_new wr _)
      have hW4B : Below w.heap.size w W4 := HBW.out.trans (HB4.out.mono HBW.out.size)
      have hdr := List.drop_eq_getElem_cons hjl
      rw [ht] at hdr
      have hC : ∀ q, checkR t = q → Calls Tryz.prog 57 #[TkV t x u A1 p1] W4 fun e w' => e = .returned (.int .i64 q) ∧ Below W4.heap.size W4 w' := fun q hq => check9q t x u A1 p1 W4 (hTA W4 (fun q hq => hW4B.block q hq) hW4B.size) q hq
      unfold TkV at hC
      rw [hna, hkd] at hC
      have HBB := Lib.hid hW4B
      subst hA
      cases hx : mayT t with
      | false =>
        have HC := Lib.hid (hC 8 (by unfold checkR; rw [hx]; rfl))
        obtain rfl : q = 8 := by
          rw [← HQ.out, if_neg]
          intro h
          have := List.all_eq_true.1 h _ (List.getElem_mem hjl)
          rw [ht, hx] at this
          cases this
        clear hsj hc0 hc1 hc2 hc3 hTA hna hst hW4B hdr hbw hall hb0 hC hx
        go_wp2_with (first
          | (refine wpList_load_row rfl _ _ rfl wr.heap.size rfl 84 #[.int .u8 (kd : Int), .string x, .slice A1 na p1, .string u] (0, 0) _ HX4.out Tryz.underlying84 rfl infoTkP ?_)
          | (go_at_call 57; (with_reducible refine (HC.out).mono ?_); rintro e5 w5 ⟨rfl, hb5⟩; have HB5 := Lib.hid (stp HBB.out hb5); clear hb5)
          | fail)
        go_ret
        exact ⟨rfl, HB5.out⟩
      | true =>
        have HC := Lib.hid (hC 0 (by unfold checkR; rw [hx]; rfl))
        have HA2 : Hid ((ts.take (j + 1)).all mayT = true) := Lib.hid (by rw [List.take_succ_eq_append_getElem hjl, List.all_append, hall, ht]; simp [hx])
        clear hsj hc0 hc1 hc2 hc3 hTA hna hst hW4B hdr hbw hall hb0 hC hx
        go_wp2_with (first
          | (refine wpList_load_row rfl _ _ rfl wr.heap.size rfl 84 #[.int .u8 (kd : Int), .string x, .slice A1 na p1, .string u] (0, 0) _ HX4.out Tryz.underlying84 rfl infoTkP ?_)
          | (go_at_call 57; (with_reducible refine (HC.out).mono ?_); rintro e5 w5 ⟨rfl, hb5⟩; have HB5 := Lib.hid (stp HBB.out hb5); clear hb5)
          | fail)
        go_roundg (gk - 1)
        case measure => omega
        case rel => exact ⟨j + 1, by omega, by go_num, HA2.out, HB5.out⟩
    · obtain rfl : j = n := by omega
      have hjj : ¬ ((j : Int) < (j : Int)) := by omega
      obtain rfl : q = 0 := by
        rw [← HQ.out]
        rw [← HN.out, List.take_length] at hall
        rw [if_pos hall]
      clear hall hbw
      go_wp2_with fail
      go_ret
      exact ⟨rfl, HBW.out⟩
def ParseTo (ts : List Tk) (w : World) (e : Ending) (w' : World) : Prop := ∃ (v : List Nd) (q : Int) (A : Option Addr) (c : Nat), parseR ts = (v, q) ∧ e = .returned (.tuple #[.slice A v.length c, .int .i64 q]) ∧ RdB NdS w' A v ∧ v.length ≤ c ∧ c ≤ maxLen ∧ (A = none → c = 0) ∧ Below w.heap.size w w'
theorem ParseTo.bad {ts : List Tk} {w w' : World} {q : Int} (h : parseR ts = ([], q)) (hb : Below w.heap.size w w') : ParseTo ts w (.returned (.tuple #[.slice none 0 0, .int .i64 q])) w' := ⟨[], q, none, 0, h, rfl, RdS.nil _ _ _, Nat.le_refl _, Nat.zero_le _, fun _ => rfl, hb⟩
theorem GrSt.read {base hi : Nat} {L : List NB} {O : List Nat} {A : Option Addr} {n c : Nat} {Vo : Value} {wr : World} (h : GrSt base hi L O (.slice A n c) Vo wr) : RdB NdS wr A (L.map NB.n) ∧ L.length = n ∧ n ≤ c ∧ c ≤ maxLen ∧ (A = none → c = 0) := by
  have hl : L.length = n := by
    have h1 := h.nd
    rcases h1.2 with ⟨e, h0⟩ | ⟨g, cap, cur, hv, _⟩
    · injection e with _ e _; omega
    · injection hv with _ e _; exact e.symm
  have hnd := h.nd
  rw [hl] at hnd
  have := RdS.of_own (C := NdS) (S := fun b => b < wr.heap.size) nbCells NB.n (fun _ => rfl) (by decide) L (fun b hb => ⟨b.x, b.y, b.z, b.A, b.c, rfl, (h.inn b hb).keep (fun k hk => Nat.lt_of_lt_of_le hk.2.1 h.sz) fun _ _ _ => rfl⟩) (fun g hg => (hnd.lt g hg).2) hnd
  exact this
theorem parse10 (A : Option Addr) (n c : Nat) (ts : List Tk) (w : World) (hr : RdC TkC w w.heap.size A ts) (hn : ts.length = n) (hmax : n ≤ 9223372036854775807) (hsm : ∀ t ∈ ts, Small t) :
    Calls Tryz.prog 40 #[.slice A n c] w (ParseTo ts w) := by
  by_cases hlong : 512 < n
  · have hT : parseR ts = ([], 4) := by unfold parseR; rw [if_pos (by omega)]
    have f1 : decide ((512 : Int) < (n : Int)) = true := decide_eq_true (by omega)
    have HT := Lib.hid hT
    clear hr hn hmax hsm hT hlong
    go_enter Tryz.func40, Tryz.ntmps40
    go_wp2_with fail
    go_ret2
    exact ParseTo.bad HT.out (Below.refl _ _)
  · have f1 : decide ((512 : Int) < (n : Int)) = false := decide_eq_false (by omega)
    have hpar : parseR ts = if ts.all mayT = true then endP (runP ⟨[], []⟩ false ts) else ([], 8) := by unfold parseR; rw [if_neg (by omega)]
    have hCH : ∀ q, (if ts.all mayT = true then (0 : Int) else 8) = q → Calls Tryz.prog 56 #[.slice A n c, .func (.func 57) #[] #[]] w fun e w' => e = .returned (.int .i64 q) ∧ Below w.heap.size w w' := fun q hq => each_check ts A n c w hn (by omega) hr hsm q hq
    cases hall : ts.all mayT with
    | false =>
      have HC := Lib.hid (hCH 8 (by rw [hall]; rfl))
      have HT : Hid (parseR ts = ([], 8)) := Lib.hid (by rw [hpar, hall]; rfl)
      clear hr hn hmax hsm hlong hpar hCH hall
      go_enter Tryz.func40, Tryz.ntmps40
      go_wp2_with (first
        | (go_at_call 56; (with_reducible refine (HC.out).mono ?_); rintro e1 w1 ⟨rfl, hb1⟩; have HB1 := Lib.hid hb1; clear hb1)
        | fail)
      go_ret2
      exact ParseTo.bad HT.out HB1.out
    | true =>
      have HC := Lib.hid (hCH 0 (by rw [hall]; rfl))
      rw [hall, if_pos rfl] at hpar
      have hkd : ∀ t ∈ ts, t.kind = 1 ∨ t.kind = 2 ∨ t.kind = 3 ∨ t.kind = 4 := fun t ht => pk_mayT_kind (List.all_eq_true.1 hall t ht)
      have hTK : ∀ W, Below w.heap.size w W → Calls Tryz.prog 56 #[.slice A n c, .func (.func 58) #[.pointer (some ⟨W.heap.size, 0, none⟩)] #[]] (W.alloc (.cells #[.slice none 0 0, .slice none 0 0, .bool false] 90)) (EachTo w.heap.size W.heap.size (W.heap.size + 1) (runP ⟨[], []⟩ false ts) (W.alloc (.cells #[.slice none 0 0, .slice none 0 0, .bool false] 90))) := fun W hW =>
        each_take w.heap.size W.heap.size (W.heap.size + 1) 0 ⟨[], []⟩ false ts A n c _ ⟨⟨W.heap.size + 1, [], .slice none 0 0, .slice none 0 0, rfl, ⟨heap_alloc_new W _, ⟨World.ownsRow_nil _ _ _ _, World.ownsRow_nil _ _ _ _, (fun q h => by cases h), (fun b hb => by cases hb), Nat.le_refl _, by rw [World.size_alloc]; exact Nat.le_refl _⟩, hW.size, Nat.lt_succ_self _⟩⟩⟩ PSb.nil (by omega) hn (hr.keep (Nat.le_refl _) fun b o hb => (hW.alloc hW.size _).cell (p := ⟨b, o, none⟩) hb) (by rw [World.size_alloc]; exact Nat.le_succ_of_le hW.size) hsm hkd
      have HBA : Hid (∀ W, Below w.heap.size w W → Below w.heap.size w (W.alloc (.cells #[.slice none 0 0, .slice none 0 0, .bool false] 90))) := Lib.hid fun W hW => hW.alloc hW.size _
      cases hx : runP ⟨[], []⟩ false ts with
      | error q =>
        rw [hx] at hTK hpar
        have hq0 : q ≠ 0 := by rcases runP_err _ _ _ _ hx with h | h <;> omega
        have fq : (q == 0) = false := by simp; omega
        have HTK : Hid (∀ W, Below w.heap.size w W → Calls Tryz.prog 56 #[.slice A n c, .func (.func 58) #[.pointer (some ⟨W.heap.size, 0, none⟩)] #[]] (W.alloc (.cells #[.slice none 0 0, .slice none 0 0, .bool false] 90)) fun e w' => e = .returned (.int .i64 q) ∧ Below w.heap.size (W.alloc (.cells #[.slice none 0 0, .slice none 0 0, .bool false] 90)) w') := Lib.hid fun W hW => (hTK W hW).mono fun e w' h => by
          obtain ⟨r, h1, h2, h3⟩ := h
          exact ⟨by rw [h1, h3.1], h2⟩
        have HT : Hid (parseR ts = ([], q)) := Lib.hid (by rw [hpar]; rfl)
        clear hr hn hmax hsm hlong hpar hCH hall hTK hkd hx
        go_enter Tryz.func40, Tryz.ntmps40
        go_wp2_with (first
          | (go_at_call 56; (with_reducible refine (HC.out).mono ?_); rintro e1 w1 ⟨rfl, hb1⟩; have HB1 := Lib.hid hb1; clear hb1)
          | (go_at_call 56; (with_reducible refine (HTK.out w1 HB1.out).mono ?_); rintro e2 w2 ⟨rfl, hb2⟩; have HB2 := Lib.hid ((HBA.out _ HB1.out).trans hb2); clear hb2)
          | fail)
        go_ret2
        exact ParseTo.bad HT.out HB2.out
      | ok s =>
        rw [hx] at hTK hpar
        have HTK : Hid (∀ W, Below w.heap.size w W → Calls Tryz.prog 56 #[.slice A n c, .func (.func 58) #[.pointer (some ⟨W.heap.size, 0, none⟩)] #[]] (W.alloc (.cells #[.slice none 0 0, .slice none 0 0, .bool false] 90)) fun e w' => e = .returned (.int .i64 0) ∧ Below w.heap.size (W.alloc (.cells #[.slice none 0 0, .slice none 0 0, .bool false] 90)) w' ∧ ∃ (An : Option Addr) (cn : Nat) (Ao : Option Addr) (co : Nat) (b : Bool), w'.heap[W.heap.size]? = some (.cells #[.slice An s.V.length cn, .slice Ao s.O.length co, .bool b] 90 (0, 0)) ∧ RdB NdS w' An s.V ∧ s.V.length ≤ cn ∧ cn ≤ maxLen ∧ (An = none → cn = 0)) := Lib.hid fun W hW => (hTK W hW).mono fun e w' h => by
          obtain ⟨r, h1, h2, h3, b, ⟨hi2, L, Vn, Vo, hV, hst⟩⟩ := h
          obtain ⟨An, cn, rfl⟩ := own_form2 hst.gr.nd
          obtain ⟨Ao, co, rfl⟩ := own_form2 hst.gr.op
          obtain ⟨r1, r2, r3, r4, r5⟩ := hst.gr.read
          have hl : L.length = s.V.length := by rw [← hV, List.length_map]
          rw [hV] at r1
          exact ⟨by rw [h1, h3], h2, An, cn, Ao, co, b, by rw [← hl]; exact hst.box, r1, by omega, r4, r5⟩
        obtain ⟨vn, hvn⟩ : ∃ vn, s.V.length = vn := ⟨_, rfl⟩
        obtain ⟨on, hon⟩ : ∃ on, s.O.length = on := ⟨_, rfl⟩
        rw [hvn, hon] at HTK
        have HV := Lib.hid hvn
        have arms := HTK
        clear arms
        by_cases hend : s.V = [] ∨ s.O ≠ []
        · have HT : Hid (parseR ts = ([], 80)) := Lib.hid (by rw [hpar]; unfold endP; dsimp only; rw [if_pos hend])
          have hvo : vn = 0 ∨ 0 < on := by
            rcases hend with h | h
            · left; rw [← hvn, h]; rfl
            · right; rw [← hon]; exact List.length_pos_iff.2 h
          clear hr hn hmax hsm hlong hpar hCH hall hTK hkd hx hend hvn hon
          rcases hvo with rfl | hvo
          · go_enter Tryz.func40, Tryz.ntmps40
            go_wp2_with (first
              | (go_at_call 56; (with_reducible refine (HC.out).mono ?_); rintro e1 w1 ⟨rfl, hb1⟩; have HB1 := Lib.hid hb1; clear hb1)
              | (go_at_call 56; (with_reducible refine (HTK.out w1 HB1.out).mono ?_); rintro e2 w2 ⟨rfl, hb2, An, cn, Ao, co, b, hbox, -, -, -, -⟩; have HB2 := Lib.hid ((HBA.out _ HB1.out).trans hb2); have k0 := cellV w2 _ 0 _ _ _ hbox; have k1 := cellV w2 _ 1 _ _ _ hbox; clear hb2 hbox)
              | fail)
            go_ret2
            exact ParseTo.bad HT.out HB2.out
          · have hvo2 : (0 : Int) < (on : Int) := by omega
            by_cases hv0 : vn = 0
            · subst hv0
              go_enter Tryz.func40, Tryz.ntmps40
              go_wp2_with (first
                | (go_at_call 56; (with_reducible refine (HC.out).mono ?_); rintro e1 w1 ⟨rfl, hb1⟩; have HB1 := Lib.hid hb1; clear hb1)
                | (go_at_call 56; (with_reducible refine (HTK.out w1 HB1.out).mono ?_); rintro e2 w2 ⟨rfl, hb2, An, cn, Ao, co, b, hbox, -, -, -, -⟩; have HB2 := Lib.hid ((HBA.out _ HB1.out).trans hb2); have k0 := cellV w2 _ 0 _ _ _ hbox; have k1 := cellV w2 _ 1 _ _ _ hbox; clear hb2 hbox)
                | fail)
              go_ret2
              exact ParseTo.bad HT.out HB2.out
            · have fv : ((vn : Int) == 0) = false := by simp; omega
              have fv2 : ¬ (vn : Int) = 0 := by omega
              go_enter Tryz.func40, Tryz.ntmps40
              go_wp2_with (first
                | (go_at_call 56; (with_reducible refine (HC.out).mono ?_); rintro e1 w1 ⟨rfl, hb1⟩; have HB1 := Lib.hid hb1; clear hb1)
                | (go_at_call 56; (with_reducible refine (HTK.out w1 HB1.out).mono ?_); rintro e2 w2 ⟨rfl, hb2, An, cn, Ao, co, b, hbox, -, -, -, -⟩; have HB2 := Lib.hid ((HBA.out _ HB1.out).trans hb2); have k0 := cellV w2 _ 0 _ _ _ hbox; have k1 := cellV w2 _ 1 _ _ _ hbox; clear hb2 hbox)
                | fail)
              go_ret2
              exact ParseTo.bad HT.out HB2.out
        · have HT : Hid (parseR ts = (s.V, 0)) := Lib.hid (by rw [hpar]; unfold endP; dsimp only; rw [if_neg hend])
          have fv : ((vn : Int) == 0) = false := by
            simp
            intro h
            exact hend (.inl (List.eq_nil_of_length_eq_zero (by omega)))
          have fv2 : ¬ (vn : Int) = 0 := by
            intro h
            exact hend (.inl (List.eq_nil_of_length_eq_zero (by omega)))
          obtain rfl : on = 0 := by
            rw [← hon]
            by_cases h : s.O = []
            · rw [h]; rfl
            · exact absurd (.inr h) hend
          clear hr hn hmax hsm hlong hpar hCH hall hTK hkd hx hend hvn hon
          go_enter Tryz.func40, Tryz.ntmps40
          go_wp2_with (first
            | (go_at_call 56; (with_reducible refine (HC.out).mono ?_); rintro e1 w1 ⟨rfl, hb1⟩; have HB1 := Lib.hid hb1; clear hb1)
            | (go_at_call 56; (with_reducible refine (HTK.out w1 HB1.out).mono ?_); rintro e2 w2 ⟨rfl, hb2, An, cn, Ao, co, b, hbox, hrd, hle, hcm, hnl⟩; have HB2 := Lib.hid ((HBA.out _ HB1.out).trans hb2); have k0 := cellV w2 _ 0 _ _ _ hbox; have k1 := cellV w2 _ 1 _ _ _ hbox; have HRD := Lib.hid hrd; have HRE := Lib.hid (And.intro hle (And.intro hcm hnl)); clear hb2 hbox hrd hle hcm hnl)
            | fail)
          go_ret2
          exact ⟨s.V, 0, An, cn, HT.out, by rw [HV.out]; rfl, HRD.out, by rw [HV.out]; exact HRE.out.1, HRE.out.2.1, HRE.out.2.2, HB2.out⟩
end Hx
end Go.Proofs.YtlhjcdkkmloamaaGreatDoor
namespace Go.Proofs.YtlhjcdkkmloamaaGreatDoor
open Go.RowKit
namespace Hx
open Lx Tx Nmb Es
set_option maxRecDepth 100000
set_option maxHeartbeats 16000000
set_option linter.unusedVariables false
def isSp (x : Nat) : Bool := decide (x = 32 ∨ x = 9 ∨ x = 10 ∨ x = 13)
def spc (x : Int) : Int := if x = 32 ∨ x = 9 ∨ x = 10 ∨ x = 13 then 32 else x
theorem valid_no {x : Nat} (h1 : 55296 ≤ x) (h2 : x ≤ 57343) : Lib.validRune (x : Int) = false := by
  unfold Lib.validRune
  exact decide_eq_false (by omega)
theorem valid_yes {x : Nat} (h : sv x = true) : Lib.validRune (x : Int) = true := by
  unfold Lib.validRune
  unfold sv at h
  simp at h
  exact decide_eq_true (by omega)
theorem irune_bad (x : Nat) (h1 : 55296 ≤ x) (h2 : x ≤ 57343) (w : World) :
    Calls Tryz.prog 140 #[.string ⟨#[32, 9, 10, 13]⟩, .int .i32 x] w fun e w' => e = .returned (.int .i64 (-1)) ∧ Below w.heap.size w w' := by
  have HV : Hid (Calls Tryz.prog 152 #[.int .i32 x] w fun e w' => e = .returned (.bool false) ∧ w = w') := Lib.hid ((Tryz.utf8_ValidRune x w).mono fun e w' ⟨k1, k2⟩ => ⟨by rw [k1, valid_no h1 h2], k2.symm⟩)
  have g1 : decide ((x : Int) < 128) = false := decide_eq_false (by omega)
  have g0 : decide ((0 : Int) ≤ (x : Int)) = true := decide_eq_true (by omega)
  have g2 : ((x : Int) == 65533) = false := by simp; omega
  clear h1 h2
  go_enter Tryz.func140, Tryz.ntmps140
  go_wp2_with (first
    | (go_at_call 152; (with_reducible refine (HV.out).mono ?_); rintro e1 w1 ⟨rfl, rfl⟩)
    | fail)
  go_ret
  exact ⟨rfl, Below.refl _ _⟩
theorem next4 (w : World) (pos : Nat) (h : pos < 4) : ∃ c : Nat, ((c : Int) == 65533) = false ∧ ∀ ty, (Instr.next (.pointer (some ⟨w.heap.size, 0, none⟩)) true ty).run Tryz.prog (w.iter ⟨#[32, 9, 10, 13]⟩ pos) = .ok (.tuple #[.bool true, .int .i64 pos, .int .i32 c]) (w.iter ⟨#[32, 9, 10, 13]⟩ (pos + 1)) := by
  have h' : pos < (⟨#[32, 9, 10, 13]⟩ : ByteArray).size := h
  have hd : ∃ c : Nat, ((c : Int) == 65533) = false ∧ Utf8.decode ⟨#[32, 9, 10, 13]⟩ pos = (c, 1) := by
    rw [decode_eq _ pos h']
    match pos, h with
    | 0, _ => exact ⟨32, rfl, rfl⟩
    | 1, _ => exact ⟨9, rfl, rfl⟩
    | 2, _ => exact ⟨10, rfl, rfl⟩
    | 3, _ => exact ⟨13, rfl, rfl⟩
  obtain ⟨c, h1, h2⟩ := hd
  refine ⟨c, h1, fun ty => ?_⟩
  rw [run_next_any w _ pos ty h', h2]
theorem irune_err (w : World) :
    Calls Tryz.prog 140 #[.string ⟨#[32, 9, 10, 13]⟩, .int .i32 65533] w fun e w' => e = .returned (.int .i64 (-1)) ∧ Below w.heap.size w w' := by
  go_enter Tryz.func140, Tryz.ntmps140
  go_wp2_with fail
  go_loopg [5, 6] 4 (fun g x y wr => ∃ pos : Nat, pos + g = 4 ∧ wr = w.iter ⟨#[32, 9, 10, 13]⟩ pos)
  case atStart => exact ⟨0, by omega, rfl⟩
  case round =>
    obtain ⟨pos, hg, rfl⟩ := hrel
    by_cases hlt : pos < 4
    · obtain ⟨c, hc, hnx⟩ := next4 w pos hlt
      go_wp2_with fail
      go_roundg (gk - 1)
      case rel => exact ⟨pos + 1, by omega, rfl⟩
      case measure => omega
    · obtain rfl : pos = 4 := by omega
      have hnx : ∀ ty, (Instr.next (.pointer (some ⟨w.heap.size, 0, none⟩)) true ty).run Tryz.prog (w.iter ⟨#[32, 9, 10, 13]⟩ 4) = _ := fun ty => run_next_end w ⟨#[32, 9, 10, 13]⟩ 4 ty (by decide)
      go_wp2_with fail
      go_ret
      exact ⟨rfl, below_iter w _ _⟩
theorem sib9 (T : ByteArray) (c : UInt8) (q : Int) (w : World) (h : Lib.indexByte T.data.toList c = q) :
    Calls Tryz.prog 101 #[.string T, .int .u8 c.toNat] w fun e w' => e = .returned (.int .i64 q) ∧ w = w' := by
  have HC : Hid (Calls Tryz.prog 80 #[.string T, .int .u8 c.toNat] w fun e w' => e = .returned (.int .i64 q) ∧ w = w') := Lib.hid ((Tryz.stringslite_IndexByte T _ w).mono fun e w' ⟨k1, k2⟩ => ⟨by rw [k1, ← h]; simp, k2.symm⟩)
  clear h
  go_enter Tryz.func101, Tryz.ntmps101
  go_wp2_with (first
    | (go_at_call 80; (with_reducible refine (HC.out).mono ?_); rintro e1 w1 ⟨rfl, rfl⟩)
    | fail)
  go_ret
  exact ⟨rfl, rfl⟩
theorem four_no (c : UInt8) (h : 128 ≤ c.toNat) (k : Nat) : Lib.indexByte (([32, 9, 10, 13] : List UInt8).drop k) c = -1 := by
  rcases xix_cases (([32, 9, 10, 13] : List UInt8).drop k) c with ⟨h1, _⟩ | ⟨i, _, _, h2, _⟩
  · exact h1
  · exfalso
    have hm : c ∈ ([32, 9, 10, 13] : List UInt8) := List.mem_of_mem_drop (i := k) (by rw [h2]; simp)
    simp only [List.mem_cons, List.not_mem_nil, or_false] at hm
    rcases hm with rfl | rfl | rfl | rfl <;> simp at h
theorem irune_far (x : Nat) (R : ByteArray) (i : Nat) (h1 : 128 ≤ x) (h3 : x ≠ 65533) (hv : sv x = true) (hR : Utf8.encode (x : Int) = R) (hi : R.size = i + 1) (hi1 : 1 ≤ i) (hi3 : i ≤ 3) (hb : 128 ≤ (R[i]'(by omega)).toNat) (w : World) :
    Calls Tryz.prog 140 #[.string ⟨#[32, 9, 10, 13]⟩, .int .i32 x] w fun e w' => e = .returned (.int .i64 (-1)) ∧ Below w.heap.size w w' := by
  have hs := valid_yes hv
  have HV : Hid (Calls Tryz.prog 152 #[.int .i32 x] w fun e w' => e = .returned (.bool true) ∧ w = w') := Lib.hid ((Tryz.utf8_ValidRune x w).mono fun e w' ⟨k1, k2⟩ => ⟨by rw [k1, hs], k2.symm⟩)
  have g1 : decide ((x : Int) < 128) = false := decide_eq_false (by omega)
  have g0 : decide ((0 : Int) ≤ (x : Int)) = true := decide_eq_true (by omega)
  have g2 : ((x : Int) == 65533) = false := by simp; omega
  obtain ⟨c, hc⟩ : ∃ c, R[i]'(by omega) = c := ⟨_, rfl⟩
  have hca : ∀ h, R[i]'h = c := fun _ => hc
  rw [hc] at hb
  have HB := Lib.hid hb
  obtain ⟨S, hS⟩ : ∃ S : ByteArray, (⟨#[32, 9, 10, 13]⟩ : ByteArray) = S := ⟨_, rfl⟩
  have hS4 : S.size = 4 := by rw [← hS]; rfl
  obtain ⟨d, hda, hd2⟩ : ∃ d : UInt8, (∀ h, S[i]'h = d) ∧ d.toNat < 128 := by
    refine ⟨S[i]'(by omega), fun _ => rfl, ?_⟩
    subst hS
    match i, hi1, hi3 with
    | 1, _, _ => show (9 : UInt8).toNat < 128; decide
    | 2, _, _ => show (10 : UInt8).toNat < 128; decide
    | 3, _, _ => show (13 : UInt8).toNat < 128; decide
  have g4 : ((d.toNat : Int) != (c.toNat : Int)) = true := by simp; omega
  obtain ⟨n, hsz⟩ : ∃ n, S.size = n := ⟨_, rfl⟩
  obtain ⟨m, hm⟩ : ∃ m, R.size = m := ⟨_, rfl⟩
  obtain ⟨j, hj⟩ : ∃ j, i + 1 = j := ⟨_, rfl⟩
  have hn : n = 4 := by omega
  have bi : (0 : Int) ≤ (i : Int) ∧ (i : Int) < (n : Int) := by omega
  have bm : (i : Int) < (m : Int) := by omega
  have bj : (0 : Int) ≤ (j : Int) ∧ (j : Int) ≤ (n : Int) := by omega
  have di : decide ((i : Int) < (n : Int)) = true := decide_eq_true (by omega)
  have s0 : IntKind.i64.wrap ((m : Int) - 1) = (i : Int) := by rw [IntWalk.i64_in _ (by omega)]; omega
  have s1 : IntKind.i64.wrap ((i : Int) + 1) = (j : Int) := by rw [IntWalk.i64_in _ (by omega)]; omega
  have s2 : ((j : Nat) : Int).toNat = j := by omega
  have s3 : ((i : Nat) : Int).toNat = i := by omega
  obtain ⟨T, hT⟩ : ∃ T : ByteArray, S.extract j n = T := ⟨_, rfl⟩
  have HI : Hid (Lib.indexByte T.data.toList c = -1) := Lib.hid (by
    have e : ((⟨#[32, 9, 10, 13]⟩ : ByteArray).extract j 4).data.toList = ([32, 9, 10, 13] : List UInt8).drop j := by
      rw [extract_l _ j 4 (Nat.le_refl _), List.take_of_length_le (by simp)]
    rw [← hT, ← hS, hn, e]
    exact four_no c HB.out j)
  rw [hS]
  clear h1 h3 hv hs hc hb hd2 hS hn hS4 hi hi1 hi3 hj
  go_enter Tryz.func140, Tryz.ntmps140
  go_wp2_with (first
    | (go_at_call 152; (with_reducible refine (HV.out).mono ?_); rintro e1 w1 ⟨rfl, rfl⟩)
    | fail)
  go_step3
  go_wp2_with fail
  refine wp_loop_rounds 1 ?_
  rw [rounds_succ]
  go_wp2_with fail
  go_step3
  go_wp2_with fail
  go_region
  go_wp2_with fail
  go_region_held3 (fun _ => True) (first | trivial | go_keep) ((first
    | (go_at_call 101; (with_reducible refine (sib9 T c (-1) _ HI.out).mono ?_); rintro e2 w2 ⟨rfl, rfl⟩)
    | fail))
  go_wp2_with fail
  (try simp only [Exit.inBlock, Exit.then, Exit.noGoto])
  go_ret
  exact ⟨rfl, (Below.refl _ _).drew.drew⟩
theorem irune_no (x : Nat) (hx : x ≤ 1114111) (h : 128 ≤ x) (w : World) :
    Calls Tryz.prog 140 #[.string ⟨#[32, 9, 10, 13]⟩, .int .i32 x] w fun e w' => e = .returned (.int .i64 (-1)) ∧ Below w.heap.size w w' := by
  by_cases h3 : x = 65533
  · subst h3; exact irune_err w
  by_cases hv : sv x = true
  · have hR := encode_eq x hv
    obtain ⟨l1, l2⟩ := enc_length x
    have hfar : ∀ c ∈ enc x, 128 ≤ c.toNat := enc_far x h hv
    have hlen : 2 ≤ (enc x).length := by
      unfold enc
      rw [if_neg (by omega)]
      split
      · simp
      · split <;> simp
    have hsz : (⟨(enc x).toArray⟩ : ByteArray).size = (enc x).length := by rw [← ba_l]
    refine irune_far x ⟨(enc x).toArray⟩ ((enc x).length - 1) h h3 hv hR (by omega) (by omega) (by omega) (hfar _ ?_) w
    have e := at_l (⟨(enc x).toArray⟩ : ByteArray) ((enc x).length - 1) (by omega)
    rw [← e]
    exact List.getElem_mem _
  · have : 55296 ≤ x ∧ x ≤ 57343 := by
      unfold sv at hv
      simp at hv
      omega
    exact irune_bad x this.1 this.2 w
theorem crune (x : Nat) (hx : x ≤ 1114111) (q : Bool) (hq : isSp x = q) (w : World) :
    Calls Tryz.prog 124 #[.string ⟨#[32, 9, 10, 13]⟩, .int .i32 x] w fun e w' => e = .returned (.bool q) ∧ Below w.heap.size w w' := by
  by_cases h : x < 128
  · refine (Tryz.strings_ContainsRune_ascii ⟨#[32, 9, 10, 13]⟩ x w (by omega) (by omega)).mono fun e w' ⟨k1, k2⟩ => ⟨?_, k2 ▸ Below.refl _ _⟩
    rw [k1, ← hq]
    congr 2
    obtain ⟨j, hj, hd⟩ := blk_index (UInt8.ofNat x)
    rw [show ((x : Int).toNat.toUInt8) = UInt8.ofNat x by simp, show (⟨#[32, 9, 10, 13]⟩ : ByteArray).data.toList = [32, 9, 10, 13] from rfl, hj, hd]
    have hn : (UInt8.ofNat x).toNat = x := by rw [UInt8.toNat_ofNat']; omega
    unfold blk isSp
    rw [Bool.eq_iff_iff]
    simp [← UInt8.toNat_inj, hn]
    omega
  · have HC := Lib.hid (irune_no x hx (by omega) w)
    obtain rfl : false = q := by rw [← hq]; unfold isSp; exact (decide_eq_false (by omega)).symm
    clear hq h hx
    go_enter Tryz.func124, Tryz.ntmps124
    go_wp2_with (first
      | (go_at_call 140; (with_reducible refine (HC.out).mono ?_); rintro e1 w1 ⟨rfl, hb1⟩)
      | fail)
    go_ret
    exact ⟨rfl, hb1⟩
theorem space9 (x : Nat) (hx : x ≤ 1114111) (w : World) :
    Calls Tryz.prog 115 #[.int .i32 x] w fun e w' => e = .returned (.int .i32 (spc x)) ∧ Below w.heap.size w w' := by
  obtain ⟨q, hq⟩ : ∃ q, isSp x = q := ⟨_, rfl⟩
  have HC := Lib.hid (crune x hx q hq w)
  cases q with
  | true =>
    have he : spc x = 32 := by unfold isSp at hq; unfold spc; rw [decide_eq_true_eq] at hq; rw [if_pos (by omega)]
    rw [he]
    clear hq he hx
    go_enter Tryz.func115, Tryz.ntmps115
    go_wp2_with (first
      | (go_at_call 124; (with_reducible refine (HC.out).mono ?_); rintro e1 w1 ⟨rfl, hb1⟩)
      | fail)
    go_ret
    exact ⟨rfl, hb1⟩
  | false =>
    have he : spc x = x := by unfold isSp at hq; unfold spc; rw [decide_eq_false_iff_not] at hq; rw [if_neg (by omega)]
    rw [he]
    clear hq he hx
    go_enter Tryz.func115, Tryz.ntmps115
    go_wp2_with (first
      | (go_at_call 124; (with_reducible refine (HC.out).mono ?_); rintro e1 w1 ⟨rfl, hb1⟩)
      | fail)
    go_ret
    exact ⟨rfl, hb1⟩
def sp8 (c : UInt8) : UInt8 := if blk c then 32 else c
theorem dec_at (n : Nat) (h : sv n = true) (r : List UInt8) : Lib.decodeL (enc n ++ r) = (n, (enc n).length) := by
  unfold Lib.decodeL
  have hl := (enc_length n).1
  rw [decode_eq _ 0 (by rw [← ba_l]; simp; omega)]
  simp [dec_enc n h r]
theorem mapD_sp : ∀ (ns : List Nat), mays ns → Lib.mapD spc (encs ns) = (encs ns).map sp8 := by
  intro ns
  induction ns with
  | nil => intro _; rfl
  | cons n ns ih =>
    intro hm
    rw [mays_cons] at hm
    have hv := nat_sv hm.1
    have hl := enc_length n
    have hne : enc n ++ encs ns ≠ [] := by
      intro e
      have := congrArg List.length e
      rw [List.length_append, List.length_nil] at this
      omega
    have hd := dec_at n hv (encs ns)
    rw [encs_cons, Lib.mapD_step spc _ hne, hd]
    dsimp only
    rw [List.drop_left, ih hm.2, List.map_append]
    congr 1
    by_cases hs : n = 32 ∨ n = 9 ∨ n = 10 ∨ n = 13
    · have e1 : spc (n : Int) = 32 := by unfold spc; rw [if_pos (by omega)]
      rw [e1, if_pos (by decide), enc_near (by omega)]
      rcases hs with rfl | rfl | rfl | rfl <;> rfl
    · have e1 : spc (n : Int) = n := by unfold spc; rw [if_neg (by omega)]
      have e2 := Lib.encode_decode (enc n ++ encs ns) hne (by
        rw [hd]
        rintro ⟨k1, k2⟩
        dsimp only at k1 k2
        subst k1
        revert k2
        decide)
      rw [hd] at e2
      dsimp only at e2
      rw [e1, if_pos (by omega), e2, List.take_left]
      refine (List.map_congr_left (g := id) fun c hc => ?_).trans (List.map_id _) |>.symm
      unfold sp8
      have : blk c = false := by
        by_cases h8 : n < 128
        · rw [enc_near h8, List.mem_singleton] at hc
          subst hc
          have hb : (bt n).toNat = n := bt_nat n (by omega)
          unfold blk
          simp [← UInt8.toNat_inj, hb]
          omega
        · have := enc_far n (by omega) hv c hc
          cases hb : blk c with
          | false => rfl
          | true => have := (blk_far hb).2.2.2.2.2.2.2; omega
      rw [this]
      rfl
structure Ev9 (w : World) : Prop where
  err : Ev w
  tab : Lib.Utf8Tabs 2 3 w
theorem Ev9.to {w w' : World} (h : Ev9 w) (hb : Below w.heap.size w w') : Ev9 w' := ⟨h.err.to hb, Utf8Tabs_below h.tab hb⟩
theorem Ev9.went {b : Nat} {s t : ByteArray} {w w' : World} (h : Ev9 w) (hr : Rd b s w) (hg : w.grownBy w' (some b)) : Ev9 w' := by
  have hc := hr.cell
  have keep : ∀ (a : Addr) v, w.cell? a = some v → (∀ s, v ≠ .string s) → a.off = 0 ∨ True → w'.cell? a = some v := by
    intro a v ha hv _
    refine hg.cell ha fun e => ?_
    have e2 : a.block = b := by injection e
    obtain ⟨ab, off, sp⟩ := a
    have hsp : sp = none := World.cell?_spot ha
    dsimp only at e2
    subst hsp e2
    rw [cellV w ab off _ _ _ hr] at ha
    cases off with
    | zero => simp at ha; exact hv s ha.symm
    | succ k => simp at ha
  obtain ⟨te, pe, he⟩ := h.err
  refine ⟨⟨te, pe, keep _ _ he (fun _ e => by cases e) (.inl rfl)⟩, fun c hc => keep _ _ (h.tab.1 c hc) (fun _ e => by cases e) (.inr trivial), fun i hi => ?_⟩
  exact ⟨keep _ _ (h.tab.2 i hi).1 (fun _ e => by cases e) (.inr trivial), keep _ _ (h.tab.2 i hi).2 (fun _ e => by cases e) (.inr trivial)⟩
theorem map9 (s t : ByteArray) (w : World) (hp : isP s.data.toList = true) (hs : s.size ≤ 1000000) (ht : t.data.toList = s.data.toList.map sp8) (hE : Ev9 w) :
    Calls Tryz.prog 114 #[.func (.func 115) #[] #[], .string s] w fun e w' => e = .returned (.string t) ∧ Below w.heap.size w w' := by
  obtain ⟨ns, hns, hm⟩ := isP_of hp
  refine (Tryz.strings_Map_grows 115 #[] (enters_of Tryz.func115 (by kernel_rfl) rfl) spc s w (by omega) (fun W x hx _ => space9 x hx W) (fun x hx => ?_) hE.tab).mono fun e w' ⟨k1, k2⟩ => ⟨?_, k2⟩
  · unfold spc
    split <;> omega
  · rw [k1, hns, mapD_sp ns hm, ← hns, ← ht]
structure At9 (b : Nat) (s : ByteArray) (w : World) : Prop where
  rd : Rd b s w
  ev : Ev9 w
  sz : s.size ≤ 16384
  tx : isP s.data.toList = true
theorem Went.heap {b k : Nat} {t : ByteArray} {w w' : World} {o : Obj} (h : Went b t w w') (hk : w.heap[k]? = some o) (hne : k ≠ b) : w'.heap[k]? = some o :=
  (h.gr.block k (Array.getElem?_eq_some_iff.1 hk).1 (fun e => hne (by injection e))).trans hk
theorem Went.ev {b : Nat} {s t : ByteArray} {w w' : World} (h : Went b t w w') (hr : Rd b s w) (hE : Ev9 w) : Ev9 w' := Ev9.went (t := t) hE hr h.gr
theorem At9.next {b : Nat} {s u : ByteArray} {w w' : World} (h : At9 b s w) (k : Went b u w w') (hp : isP u.data.toList = true) (hz : u.size ≤ 16384) : At9 b u w' := ⟨k.rd, k.ev h.rd h.ev, hz, hp⟩
theorem At9.alloc {b : Nat} {s : ByteArray} {w : World} (h : At9 b s w) (o : Obj) : At9 b s (w.alloc o) := ⟨h.rd.below (stpA (Below.refl _ _) o), h.ev.to (stpA (Below.refl _ _) o), h.sz, h.tx⟩
theorem At9.below {b : Nat} {s : ByteArray} {w w' : World} (h : At9 b s w) (hb : Below w.heap.size w w') : At9 b s w' := ⟨h.rd.below hb, h.ev.to hb, h.sz, h.tx⟩
theorem grown_setRow (w : World) (g : Nat) (cs : Array Value) {w0 : World} {b : Nat} (h : w0.grownBy w (some b)) (hg : w0.heap.size ≤ g) : w0.grownBy (w.setRow g cs) (some b) :=
  ⟨h.os, h.tape, h.output, by have := h.size; simpa [World.setRow] using this, fun k hk hne => (setRow_other w g k cs (by omega)).trans (h.block k hk hne)⟩
theorem Went.setRow {b : Nat} {t : ByteArray} {w w' : World} (h : Went b t w w') (g : Nat) (cs : Array Value) (hg : w.heap.size ≤ g) (hb : b < w.heap.size) : Went b t w (w'.setRow g cs) :=
  ⟨(setRow_other w' g b cs (by omega)).trans h.rd, grown_setRow _ _ _ h.gr hg⟩
theorem mk_l (l : List UInt8) : ∃ t : ByteArray, t.data.toList = l := ⟨⟨l.toArray⟩, by simp⟩
theorem size_l {t : ByteArray} {l : List UInt8} (h : t.data.toList = l) : t.size = l.length := by rw [← h, ba_l]
theorem isP_sp8 {l : List UInt8} (h : isP l = true) : isP (l.map sp8) = true := isP_map sp8 (fun c hc => by
    unfold sp8
    rw [if_neg]
    intro hb
    have := (blk_far hb).2.2.2.2.2.2.2
    omega) (fun c hc hm => by
    unfold sp8
    split
    · exact ⟨by decide, by decide⟩
    · exact ⟨hc, hm⟩) h
theorem toldL_sp8 (l : List UInt8) : toldL l = rd (l.map sp8) := rfl
theorem pre1 {l : List UInt8} {c : UInt8} (h : ∀ r, l ≠ c :: r) : ¬ [c] <+: l := by
  rintro ⟨r, e⟩
  exact h r e.symm
theorem value_34_open (b : Nat) (s s1 : ByteArray) (raw u : ByteArray) (w : World) (h : At9 b s w) (hs : s.data.toList = 34 :: s1.data.toList) (hraw : raw.data.toList = s1.data.toList.takeWhile (ne 34)) (hu : u.data.toList = s1.data.toList.dropWhile (ne 34)) (h0 : u.data.toList = []) :
    Calls Tryz.prog 102 #[.pointer (some ⟨b, 0, none⟩)] w fun e w' => e = Thrown 80 ∧ ∃ u, Went b u w w' := by
  have hz := size_l hs
  rw [List.length_cons, ba_l] at hz
  have hsz := h.sz
  have hr := h.rd
  have HT := Lib.hid (take_yes b s s1 ⟨#[34]⟩ w hr (by rw [hs]; rfl))
  have HU : Hid (∀ W, Rd b s1 W → Calls Tryz.prog 73 #[.pointer (some ⟨b, 0, none⟩), .string ⟨#[34]⟩] W fun e w' => e = .returned (.string raw) ∧ Went b u W w') := Lib.hid fun W hW => until_34 b s1 raw u W hW (by omega) hraw hu
  have HM2 : Hid (∀ W, Rd b u W → Calls Tryz.prog 87 #[.pointer (some ⟨b, 0, none⟩), .string ⟨#[34]⟩] W fun e w' => e = Thrown 80 ∧ Went b u W w') := Lib.hid fun W hW => must_no b u ⟨#[34]⟩ W hW (by rw [h0]; exact pre1 (fun r e => by cases e))
  unfold Thrown at HM2 ⊢
  clear h hs hz hsz hr hraw hu h0
  go_enter Tryz.func102, Tryz.ntmps102
  go_wp2_with (first
    | (go_at_call 69; (with_reducible refine (HT.out).mono ?_); rintro e1 w1 ⟨rfl, hw1⟩; have HW1 : Hid (Went b s1 w w1) := Lib.hid hw1; clear hw1)
    | (go_at_call 73; (with_reducible refine (HU.out w1 HW1.out.rd).mono ?_); rintro e2 w2 ⟨rfl, hw2⟩; have HW2 : Hid (Went b u w w2) := Lib.hid (HW1.out.trans hw2); clear hw2)
    | (go_at_call 87; (with_reducible refine (HM2.out w2 HW2.out.rd).mono ?_); rintro e3 w3 ⟨rfl, hw3⟩)
    | fail)
  (try simp only [Exit.inBlock, Exit.then])
  exact ⟨rfl, rfl, _, HW2.out.trans hw3⟩
theorem value_34_yes (b : Nat) (s s1 : ByteArray) (raw u y t v : ByteArray) (w : World) (h : At9 b s w) (hs : s.data.toList = 34 :: s1.data.toList) (hraw : raw.data.toList = s1.data.toList.takeWhile (ne 34)) (hu : u.data.toList = s1.data.toList.dropWhile (ne 34)) (hy : u.data.toList = 34 :: y.data.toList) (hp : isP raw.data.toList = true) (ht : t.data.toList = raw.data.toList.map sp8) (hv : rd t.data.toList = some v.data.toList) :
    Calls Tryz.prog 102 #[.pointer (some ⟨b, 0, none⟩)] w fun e w' => e = .returned (.string v) ∧ Went b y w w' := by
  have hz := size_l hs
  rw [List.length_cons, ba_l] at hz
  have hsz := h.sz
  have hr := h.rd
  have HT := Lib.hid (take_yes b s s1 ⟨#[34]⟩ w hr (by rw [hs]; rfl))
  have HU : Hid (∀ W, Rd b s1 W → Calls Tryz.prog 73 #[.pointer (some ⟨b, 0, none⟩), .string ⟨#[34]⟩] W fun e w' => e = .returned (.string raw) ∧ Went b u W w') := Lib.hid fun W hW => until_34 b s1 raw u W hW (by omega) hraw hu
  have hev := h.ev
  have hrs : raw.size ≤ 16384 := by
    have := congrArg List.length (tw_split (ne 34) s1.data.toList).1
    rw [List.length_append, ← hraw, ba_l, ba_l] at this
    omega
  have hts : t.size ≤ 16384 := by rw [size_l ht, List.length_map, ba_l]; exact hrs
  have htp : isP t.data.toList = true := by rw [ht]; exact isP_sp8 hp
  have HM2 : Hid (∀ W, Rd b u W → Calls Tryz.prog 87 #[.pointer (some ⟨b, 0, none⟩), .string ⟨#[34]⟩] W fun e w' => e = .returned (.tuple #[]) ∧ Went b y W w') := Lib.hid fun W hW => must_yes b u y ⟨#[34]⟩ W hW (by rw [hy]; rfl)
  have HMP : Hid (∀ W, Ev9 W → Calls Tryz.prog 114 #[.func (.func 115) #[] #[], .string raw] W fun e w' => e = .returned (.string t) ∧ Below W.heap.size W w') := Lib.hid fun W hW => map9 raw t W hp (by omega) ht hW
  have HPL : Hid (∀ W, Ev9 W → Calls Tryz.prog 72 #[.string t] W fun e w' => e = .returned (.string v) ∧ Below W.heap.size W w') := Lib.hid fun W hW => plain_yes t v W htp hts hv hW.err
  have HEV : Hid (∀ u W, Went b u w W → Ev9 W) := Lib.hid fun u W hW => hW.ev hr hev
  clear h hs hz hsz hr hraw hu hy hp ht hv hev hrs hts htp
  go_enter Tryz.func102, Tryz.ntmps102
  go_wp2_with (first
    | (go_at_call 69; (with_reducible refine (HT.out).mono ?_); rintro e1 w1 ⟨rfl, hw1⟩; have HW1 : Hid (Went b s1 w w1) := Lib.hid hw1; clear hw1)
    | (go_at_call 73; (with_reducible refine (HU.out w1 HW1.out.rd).mono ?_); rintro e2 w2 ⟨rfl, hw2⟩; have HW2 : Hid (Went b u w w2) := Lib.hid (HW1.out.trans hw2); clear hw2)
    | (go_at_call 87; (with_reducible refine (HM2.out w2 HW2.out.rd).mono ?_); rintro e3 w3 ⟨rfl, hw3⟩; have HW3 : Hid (Went b y w w3) := Lib.hid (HW2.out.trans hw3); clear hw3)
    | (go_at_call 114; (with_reducible refine (HMP.out w3 (HEV.out _ _ HW3.out)).mono ?_); rintro e4 w4 ⟨rfl, hb4⟩; have HW4 : Hid (Went b y w w4) := Lib.hid (HW3.out.then hb4); clear hb4)
    | (go_at_call 72; (with_reducible refine (HPL.out w4 (HEV.out _ _ HW4.out)).mono ?_); rintro e5 w5 ⟨rfl, hb5⟩)
    | fail)
  go_ret
  exact ⟨rfl, HW4.out.then hb5⟩
theorem value_34_bad (b : Nat) (s s1 : ByteArray) (raw u y t : ByteArray) (w : World) (h : At9 b s w) (hs : s.data.toList = 34 :: s1.data.toList) (hraw : raw.data.toList = s1.data.toList.takeWhile (ne 34)) (hu : u.data.toList = s1.data.toList.dropWhile (ne 34)) (hy : u.data.toList = 34 :: y.data.toList) (hp : isP raw.data.toList = true) (ht : t.data.toList = raw.data.toList.map sp8) (hv : rd t.data.toList = none) :
    Calls Tryz.prog 102 #[.pointer (some ⟨b, 0, none⟩)] w fun e w' => e = Thrown 80 ∧ ∃ u, Went b u w w' := by
  have hz := size_l hs
  rw [List.length_cons, ba_l] at hz
  have hsz := h.sz
  have hr := h.rd
  have HT := Lib.hid (take_yes b s s1 ⟨#[34]⟩ w hr (by rw [hs]; rfl))
  have HU : Hid (∀ W, Rd b s1 W → Calls Tryz.prog 73 #[.pointer (some ⟨b, 0, none⟩), .string ⟨#[34]⟩] W fun e w' => e = .returned (.string raw) ∧ Went b u W w') := Lib.hid fun W hW => until_34 b s1 raw u W hW (by omega) hraw hu
  have hev := h.ev
  have hrs : raw.size ≤ 16384 := by
    have := congrArg List.length (tw_split (ne 34) s1.data.toList).1
    rw [List.length_append, ← hraw, ba_l, ba_l] at this
    omega
  have hts : t.size ≤ 16384 := by rw [size_l ht, List.length_map, ba_l]; exact hrs
  have htp : isP t.data.toList = true := by rw [ht]; exact isP_sp8 hp
  have HM2 : Hid (∀ W, Rd b u W → Calls Tryz.prog 87 #[.pointer (some ⟨b, 0, none⟩), .string ⟨#[34]⟩] W fun e w' => e = .returned (.tuple #[]) ∧ Went b y W w') := Lib.hid fun W hW => must_yes b u y ⟨#[34]⟩ W hW (by rw [hy]; rfl)
  have HMP : Hid (∀ W, Ev9 W → Calls Tryz.prog 114 #[.func (.func 115) #[] #[], .string raw] W fun e w' => e = .returned (.string t) ∧ Below W.heap.size W w') := Lib.hid fun W hW => map9 raw t W hp (by omega) ht hW
  have HPL : Hid (∀ W, Ev9 W → Calls Tryz.prog 72 #[.string t] W fun e w' => e = Thrown 80 ∧ Below W.heap.size W w') := Lib.hid fun W hW => plain_no t W htp hts hv hW.err
  unfold Thrown at HPL ⊢
  have HEV : Hid (∀ u W, Went b u w W → Ev9 W) := Lib.hid fun u W hW => hW.ev hr hev
  clear h hs hz hsz hr hraw hu hy hp ht hv hev hrs hts htp
  go_enter Tryz.func102, Tryz.ntmps102
  go_wp2_with (first
    | (go_at_call 69; (with_reducible refine (HT.out).mono ?_); rintro e1 w1 ⟨rfl, hw1⟩; have HW1 : Hid (Went b s1 w w1) := Lib.hid hw1; clear hw1)
    | (go_at_call 73; (with_reducible refine (HU.out w1 HW1.out.rd).mono ?_); rintro e2 w2 ⟨rfl, hw2⟩; have HW2 : Hid (Went b u w w2) := Lib.hid (HW1.out.trans hw2); clear hw2)
    | (go_at_call 87; (with_reducible refine (HM2.out w2 HW2.out.rd).mono ?_); rintro e3 w3 ⟨rfl, hw3⟩; have HW3 : Hid (Went b y w w3) := Lib.hid (HW2.out.trans hw3); clear hw3)
    | (go_at_call 114; (with_reducible refine (HMP.out w3 (HEV.out _ _ HW3.out)).mono ?_); rintro e4 w4 ⟨rfl, hb4⟩; have HW4 : Hid (Went b y w w4) := Lib.hid (HW3.out.then hb4); clear hb4)
    | (go_at_call 72; (with_reducible refine (HPL.out w4 (HEV.out _ _ HW4.out)).mono ?_); rintro e5 w5 ⟨rfl, hb5⟩)
    | fail)
  (try simp only [Exit.inBlock, Exit.then])
  exact ⟨rfl, rfl, _, HW4.out.then hb5⟩
theorem value_39_open (b : Nat) (s s1 : ByteArray) (raw u : ByteArray) (w : World) (h : At9 b s w) (hs : s.data.toList = 39 :: s1.data.toList) (hraw : raw.data.toList = s1.data.toList.takeWhile (ne 39)) (hu : u.data.toList = s1.data.toList.dropWhile (ne 39)) (h0 : u.data.toList = []) :
    Calls Tryz.prog 102 #[.pointer (some ⟨b, 0, none⟩)] w fun e w' => e = Thrown 80 ∧ ∃ u, Went b u w w' := by
  have hz := size_l hs
  rw [List.length_cons, ba_l] at hz
  have hsz := h.sz
  have hr := h.rd
  have HT := Lib.hid (take_no b s ⟨#[34]⟩ w hr (by rw [hs]; exact pre1 (fun r e => by cases e)))
  have HM1 : Hid (∀ W, Rd b s W → Calls Tryz.prog 87 #[.pointer (some ⟨b, 0, none⟩), .string ⟨#[39]⟩] W fun e w' => e = .returned (.tuple #[]) ∧ Went b s1 W w') := Lib.hid fun W hW => must_yes b s s1 ⟨#[39]⟩ W hW (by rw [hs]; rfl)
  have HU : Hid (∀ W, Rd b s1 W → Calls Tryz.prog 73 #[.pointer (some ⟨b, 0, none⟩), .string ⟨#[39]⟩] W fun e w' => e = .returned (.string raw) ∧ Went b u W w') := Lib.hid fun W hW => until_39 b s1 raw u W hW (by omega) hraw hu
  have HM2 : Hid (∀ W, Rd b u W → Calls Tryz.prog 87 #[.pointer (some ⟨b, 0, none⟩), .string ⟨#[39]⟩] W fun e w' => e = Thrown 80 ∧ Went b u W w') := Lib.hid fun W hW => must_no b u ⟨#[39]⟩ W hW (by rw [h0]; exact pre1 (fun r e => by cases e))
  unfold Thrown at HM2 ⊢
  clear h hs hz hsz hr hraw hu h0
  have tok1 : True := trivial
  go_enter Tryz.func102, Tryz.ntmps102
  go_wp2_with (first
    | (go_at_call 69; (with_reducible refine (HT.out).mono ?_); rintro e0 w0 ⟨rfl, hw0⟩; have HW0 : Hid (Went b s w w0) := Lib.hid hw0; clear hw0)
    | (have _t := tok1; go_at_call 87; (with_reducible refine (HM1.out w0 HW0.out.rd).mono ?_); rintro e1 w1 ⟨rfl, hw1⟩; have HW1 : Hid (Went b s1 w w1) := Lib.hid (HW0.out.trans hw1); clear hw1; clear _t tok1)
    | (go_at_call 73; (with_reducible refine (HU.out w1 HW1.out.rd).mono ?_); rintro e2 w2 ⟨rfl, hw2⟩; have HW2 : Hid (Went b u w w2) := Lib.hid (HW1.out.trans hw2); clear hw2)
    | (go_at_call 87; (with_reducible refine (HM2.out w2 HW2.out.rd).mono ?_); rintro e3 w3 ⟨rfl, hw3⟩)
    | fail)
  (try simp only [Exit.inBlock, Exit.then])
  exact ⟨rfl, rfl, _, HW2.out.trans hw3⟩
theorem value_39_yes (b : Nat) (s s1 : ByteArray) (raw u y t v : ByteArray) (w : World) (h : At9 b s w) (hs : s.data.toList = 39 :: s1.data.toList) (hraw : raw.data.toList = s1.data.toList.takeWhile (ne 39)) (hu : u.data.toList = s1.data.toList.dropWhile (ne 39)) (hy : u.data.toList = 39 :: y.data.toList) (hp : isP raw.data.toList = true) (ht : t.data.toList = raw.data.toList.map sp8) (hv : rd t.data.toList = some v.data.toList) :
    Calls Tryz.prog 102 #[.pointer (some ⟨b, 0, none⟩)] w fun e w' => e = .returned (.string v) ∧ Went b y w w' := by
  have hz := size_l hs
  rw [List.length_cons, ba_l] at hz
  have hsz := h.sz
  have hr := h.rd
  have HT := Lib.hid (take_no b s ⟨#[34]⟩ w hr (by rw [hs]; exact pre1 (fun r e => by cases e)))
  have HM1 : Hid (∀ W, Rd b s W → Calls Tryz.prog 87 #[.pointer (some ⟨b, 0, none⟩), .string ⟨#[39]⟩] W fun e w' => e = .returned (.tuple #[]) ∧ Went b s1 W w') := Lib.hid fun W hW => must_yes b s s1 ⟨#[39]⟩ W hW (by rw [hs]; rfl)
  have HU : Hid (∀ W, Rd b s1 W → Calls Tryz.prog 73 #[.pointer (some ⟨b, 0, none⟩), .string ⟨#[39]⟩] W fun e w' => e = .returned (.string raw) ∧ Went b u W w') := Lib.hid fun W hW => until_39 b s1 raw u W hW (by omega) hraw hu
  have hev := h.ev
  have hrs : raw.size ≤ 16384 := by
    have := congrArg List.length (tw_split (ne 39) s1.data.toList).1
    rw [List.length_append, ← hraw, ba_l, ba_l] at this
    omega
  have hts : t.size ≤ 16384 := by rw [size_l ht, List.length_map, ba_l]; exact hrs
  have htp : isP t.data.toList = true := by rw [ht]; exact isP_sp8 hp
  have HM2 : Hid (∀ W, Rd b u W → Calls Tryz.prog 87 #[.pointer (some ⟨b, 0, none⟩), .string ⟨#[39]⟩] W fun e w' => e = .returned (.tuple #[]) ∧ Went b y W w') := Lib.hid fun W hW => must_yes b u y ⟨#[39]⟩ W hW (by rw [hy]; rfl)
  have HMP : Hid (∀ W, Ev9 W → Calls Tryz.prog 114 #[.func (.func 115) #[] #[], .string raw] W fun e w' => e = .returned (.string t) ∧ Below W.heap.size W w') := Lib.hid fun W hW => map9 raw t W hp (by omega) ht hW
  have HPL : Hid (∀ W, Ev9 W → Calls Tryz.prog 72 #[.string t] W fun e w' => e = .returned (.string v) ∧ Below W.heap.size W w') := Lib.hid fun W hW => plain_yes t v W htp hts hv hW.err
  have HEV : Hid (∀ u W, Went b u w W → Ev9 W) := Lib.hid fun u W hW => hW.ev hr hev
  clear h hs hz hsz hr hraw hu hy hp ht hv hev hrs hts htp
  have tok1 : True := trivial
  go_enter Tryz.func102, Tryz.ntmps102
  go_wp2_with (first
    | (go_at_call 69; (with_reducible refine (HT.out).mono ?_); rintro e0 w0 ⟨rfl, hw0⟩; have HW0 : Hid (Went b s w w0) := Lib.hid hw0; clear hw0)
    | (have _t := tok1; go_at_call 87; (with_reducible refine (HM1.out w0 HW0.out.rd).mono ?_); rintro e1 w1 ⟨rfl, hw1⟩; have HW1 : Hid (Went b s1 w w1) := Lib.hid (HW0.out.trans hw1); clear hw1; clear _t tok1)
    | (go_at_call 73; (with_reducible refine (HU.out w1 HW1.out.rd).mono ?_); rintro e2 w2 ⟨rfl, hw2⟩; have HW2 : Hid (Went b u w w2) := Lib.hid (HW1.out.trans hw2); clear hw2)
    | (go_at_call 87; (with_reducible refine (HM2.out w2 HW2.out.rd).mono ?_); rintro e3 w3 ⟨rfl, hw3⟩; have HW3 : Hid (Went b y w w3) := Lib.hid (HW2.out.trans hw3); clear hw3)
    | (go_at_call 114; (with_reducible refine (HMP.out w3 (HEV.out _ _ HW3.out)).mono ?_); rintro e4 w4 ⟨rfl, hb4⟩; have HW4 : Hid (Went b y w w4) := Lib.hid (HW3.out.then hb4); clear hb4)
    | (go_at_call 72; (with_reducible refine (HPL.out w4 (HEV.out _ _ HW4.out)).mono ?_); rintro e5 w5 ⟨rfl, hb5⟩)
    | fail)
  go_ret
  exact ⟨rfl, HW4.out.then hb5⟩
theorem value_39_bad (b : Nat) (s s1 : ByteArray) (raw u y t : ByteArray) (w : World) (h : At9 b s w) (hs : s.data.toList = 39 :: s1.data.toList) (hraw : raw.data.toList = s1.data.toList.takeWhile (ne 39)) (hu : u.data.toList = s1.data.toList.dropWhile (ne 39)) (hy : u.data.toList = 39 :: y.data.toList) (hp : isP raw.data.toList = true) (ht : t.data.toList = raw.data.toList.map sp8) (hv : rd t.data.toList = none) :
    Calls Tryz.prog 102 #[.pointer (some ⟨b, 0, none⟩)] w fun e w' => e = Thrown 80 ∧ ∃ u, Went b u w w' := by
  have hz := size_l hs
  rw [List.length_cons, ba_l] at hz
  have hsz := h.sz
  have hr := h.rd
  have HT := Lib.hid (take_no b s ⟨#[34]⟩ w hr (by rw [hs]; exact pre1 (fun r e => by cases e)))
  have HM1 : Hid (∀ W, Rd b s W → Calls Tryz.prog 87 #[.pointer (some ⟨b, 0, none⟩), .string ⟨#[39]⟩] W fun e w' => e = .returned (.tuple #[]) ∧ Went b s1 W w') := Lib.hid fun W hW => must_yes b s s1 ⟨#[39]⟩ W hW (by rw [hs]; rfl)
  have HU : Hid (∀ W, Rd b s1 W → Calls Tryz.prog 73 #[.pointer (some ⟨b, 0, none⟩), .string ⟨#[39]⟩] W fun e w' => e = .returned (.string raw) ∧ Went b u W w') := Lib.hid fun W hW => until_39 b s1 raw u W hW (by omega) hraw hu
  have hev := h.ev
  have hrs : raw.size ≤ 16384 := by
    have := congrArg List.length (tw_split (ne 39) s1.data.toList).1
    rw [List.length_append, ← hraw, ba_l, ba_l] at this
    omega
  have hts : t.size ≤ 16384 := by rw [size_l ht, List.length_map, ba_l]; exact hrs
  have htp : isP t.data.toList = true := by rw [ht]; exact isP_sp8 hp
  have HM2 : Hid (∀ W, Rd b u W → Calls Tryz.prog 87 #[.pointer (some ⟨b, 0, none⟩), .string ⟨#[39]⟩] W fun e w' => e = .returned (.tuple #[]) ∧ Went b y W w') := Lib.hid fun W hW => must_yes b u y ⟨#[39]⟩ W hW (by rw [hy]; rfl)
  have HMP : Hid (∀ W, Ev9 W → Calls Tryz.prog 114 #[.func (.func 115) #[] #[], .string raw] W fun e w' => e = .returned (.string t) ∧ Below W.heap.size W w') := Lib.hid fun W hW => map9 raw t W hp (by omega) ht hW
  have HPL : Hid (∀ W, Ev9 W → Calls Tryz.prog 72 #[.string t] W fun e w' => e = Thrown 80 ∧ Below W.heap.size W w') := Lib.hid fun W hW => plain_no t W htp hts hv hW.err
  unfold Thrown at HPL ⊢
  have HEV : Hid (∀ u W, Went b u w W → Ev9 W) := Lib.hid fun u W hW => hW.ev hr hev
  clear h hs hz hsz hr hraw hu hy hp ht hv hev hrs hts htp
  have tok1 : True := trivial
  go_enter Tryz.func102, Tryz.ntmps102
  go_wp2_with (first
    | (go_at_call 69; (with_reducible refine (HT.out).mono ?_); rintro e0 w0 ⟨rfl, hw0⟩; have HW0 : Hid (Went b s w w0) := Lib.hid hw0; clear hw0)
    | (have _t := tok1; go_at_call 87; (with_reducible refine (HM1.out w0 HW0.out.rd).mono ?_); rintro e1 w1 ⟨rfl, hw1⟩; have HW1 : Hid (Went b s1 w w1) := Lib.hid (HW0.out.trans hw1); clear hw1; clear _t tok1)
    | (go_at_call 73; (with_reducible refine (HU.out w1 HW1.out.rd).mono ?_); rintro e2 w2 ⟨rfl, hw2⟩; have HW2 : Hid (Went b u w w2) := Lib.hid (HW1.out.trans hw2); clear hw2)
    | (go_at_call 87; (with_reducible refine (HM2.out w2 HW2.out.rd).mono ?_); rintro e3 w3 ⟨rfl, hw3⟩; have HW3 : Hid (Went b y w w3) := Lib.hid (HW2.out.trans hw3); clear hw3)
    | (go_at_call 114; (with_reducible refine (HMP.out w3 (HEV.out _ _ HW3.out)).mono ?_); rintro e4 w4 ⟨rfl, hb4⟩; have HW4 : Hid (Went b y w w4) := Lib.hid (HW3.out.then hb4); clear hb4)
    | (go_at_call 72; (with_reducible refine (HPL.out w4 (HEV.out _ _ HW4.out)).mono ?_); rintro e5 w5 ⟨rfl, hb5⟩)
    | fail)
  (try simp only [Exit.inBlock, Exit.then])
  exact ⟨rfl, rfl, _, HW4.out.then hb5⟩
theorem value_other (b : Nat) (s : ByteArray) (w : World) (h : At9 b s w) (h1 : ∀ r, s.data.toList ≠ 34 :: r) (h2 : ∀ r, s.data.toList ≠ 39 :: r) :
    Calls Tryz.prog 102 #[.pointer (some ⟨b, 0, none⟩)] w fun e w' => e = Thrown 80 ∧ ∃ u, Went b u w w' := by
  have HT := Lib.hid (take_no b s ⟨#[34]⟩ w h.rd (pre1 h1))
  have HM1 : Hid (∀ W, Rd b s W → Calls Tryz.prog 87 #[.pointer (some ⟨b, 0, none⟩), .string ⟨#[39]⟩] W fun e w' => e = Thrown 80 ∧ Went b s W w') := Lib.hid fun W hW => must_no b s ⟨#[39]⟩ W hW (pre1 h2)
  unfold Thrown at HM1 ⊢
  clear h h1 h2
  go_enter Tryz.func102, Tryz.ntmps102
  go_wp2_with (first
    | (go_at_call 69; (with_reducible refine (HT.out).mono ?_); rintro e0 w0 ⟨rfl, hw0⟩; have HW0 : Hid (Went b s w w0) := Lib.hid hw0; clear hw0)
    | (go_at_call 87; (with_reducible refine (HM1.out w0 HW0.out.rd).mono ?_); rintro e1 w1 ⟨rfl, hw1⟩)
    | fail)
  (try simp only [Exit.inBlock, Exit.then])
  exact ⟨rfl, rfl, _, HW0.out.trans hw1⟩
theorem valL_cons (q : UInt8) (r : List UInt8) (hq : q = 34 ∨ q = 39) : valL (q :: r) = match r.dropWhile (ne q) with | [] => none | _ :: y => (toldL (r.takeWhile (ne q))).map fun v => (v, y) := by
  show (if q = 34 ∨ q = 39 then (match cutQ q r with | none => none | some (raw, y) => (toldL raw).map fun v => (v, y)) else none) = _
  rw [if_pos hq, cutQ_ne]
  cases r.dropWhile (ne q) <;> rfl
theorem ne_head {q d : UInt8} {r y : List UInt8} (h : r.dropWhile (ne q) = d :: y) : d = q := by
  have := (tw_split (ne q) r).2.2 d y h
  unfold ne at this
  simpa using this
theorem value_some (b : Nat) (s v y : ByteArray) (w : World) (h : At9 b s w) (hv : valL s.data.toList = some (v.data.toList, y.data.toList)) :
    Calls Tryz.prog 102 #[.pointer (some ⟨b, 0, none⟩)] w fun e w' => e = .returned (.string v) ∧ Went b y w w' := by
  have hp := h.tx
  cases hs : s.data.toList with
  | nil => rw [hs] at hv; cases hv
  | cons q r =>
    rw [hs] at hv hp
    have hq : q = 34 ∨ q = 39 := by
      by_cases hq : q = 34 ∨ q = 39
      · exact hq
      · have : valL (q :: r) = none := by show (if q = 34 ∨ q = 39 then _ else none) = none; rw [if_neg hq]
        rw [this] at hv; cases hv
    rw [valL_cons q r hq] at hv
    obtain ⟨s1, hs1⟩ := mk_l r
    subst hs1
    obtain ⟨raw, hraw⟩ := mk_l (s1.data.toList.takeWhile (ne q))
    obtain ⟨u, hu⟩ := mk_l (s1.data.toList.dropWhile (ne q))
    obtain ⟨t, ht⟩ := mk_l (raw.data.toList.map sp8)
    have hpp := isP_behind (g := [q]) (l := s1.data.toList) hp (by intro c hc; rw [List.mem_singleton] at hc; subst hc; exact q_low hq)
    cases hd : s1.data.toList.dropWhile (ne q) with
    | nil => rw [hd] at hv; cases hv
    | cons d y' =>
      obtain rfl := ne_head hd
      rw [hd] at hv
      dsimp only at hv
      have hsp := (tw_split (ne d) s1.data.toList).1
      rw [hd] at hsp
      rw [hsp] at hpp
      have hpr := (isP_split hpp (q_low hq)).1
      rw [← hraw] at hpr hv
      rw [toldL_sp8, ← ht] at hv
      cases hr : rd t.data.toList with
      | none => rw [hr] at hv; cases hv
      | some x =>
        rw [hr] at hv
        obtain ⟨e1, e2⟩ := (Prod.mk.injEq _ _ _ _).mp (Option.some.inj hv)
        rw [e1] at hr
        have hy : u.data.toList = d :: y.data.toList := by rw [hu, hd, e2]
        rcases hq with rfl | rfl
        · exact value_34_yes b s s1 raw u y t v w h hs hraw hu hy hpr ht hr
        · exact value_39_yes b s s1 raw u y t v w h hs hraw hu hy hpr ht hr
theorem value_none (b : Nat) (s : ByteArray) (w : World) (h : At9 b s w) (hv : valL s.data.toList = none) :
    Calls Tryz.prog 102 #[.pointer (some ⟨b, 0, none⟩)] w fun e w' => e = Thrown 80 ∧ ∃ u, Went b u w w' := by
  have hp := h.tx
  by_cases hq : ∃ q r, s.data.toList = q :: r ∧ (q = 34 ∨ q = 39)
  · obtain ⟨q, r, hs, hq⟩ := hq
    rw [hs] at hv hp
    rw [valL_cons q r hq] at hv
    obtain ⟨s1, hs1⟩ := mk_l r
    subst hs1
    obtain ⟨raw, hraw⟩ := mk_l (s1.data.toList.takeWhile (ne q))
    obtain ⟨u, hu⟩ := mk_l (s1.data.toList.dropWhile (ne q))
    obtain ⟨t, ht⟩ := mk_l (raw.data.toList.map sp8)
    have hpp := isP_behind (g := [q]) (l := s1.data.toList) hp (by intro c hc; rw [List.mem_singleton] at hc; subst hc; exact q_low hq)
    cases hd : s1.data.toList.dropWhile (ne q) with
    | nil =>
      rcases hq with rfl | rfl
      · exact value_34_open b s s1 raw u w h hs hraw hu (hu.trans hd)
      · exact value_39_open b s s1 raw u w h hs hraw hu (hu.trans hd)
    | cons d y' =>
      obtain rfl := ne_head hd
      rw [hd] at hv
      dsimp only at hv
      have hsp := (tw_split (ne d) s1.data.toList).1
      rw [hd] at hsp
      rw [hsp] at hpp
      have hpr := (isP_split hpp (q_low hq)).1
      rw [← hraw] at hpr hv
      rw [toldL_sp8, ← ht] at hv
      have hr : rd t.data.toList = none := by
        cases hr : rd t.data.toList with
        | none => rfl
        | some x => rw [hr] at hv; cases hv
      obtain ⟨y, hy⟩ := mk_l y'
      have hy2 : u.data.toList = d :: y.data.toList := by rw [hu, hd, hy]
      rcases hq with rfl | rfl
      · exact value_34_bad b s s1 raw u y t w h hs hraw hu hy2 hpr ht hr
      · exact value_39_bad b s s1 raw u y t w h hs hraw hu hy2 hpr ht hr
  · exact value_other b s w h (fun r e => hq ⟨34, r, e, .inl rfl⟩) (fun r e => hq ⟨39, r, e, .inr rfl⟩)
end Hx
end Go.Proofs.YtlhjcdkkmloamaaGreatDoor
