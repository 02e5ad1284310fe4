/-
  Texts of one seat, put together: SpaG, SpaP.
-/
import Derived.Test.YteobcohjikjalaaGreatDoorSp33
import Derived.Test.YteobcohjikjalaaGreatDoorSp23
import Derived.Test.YteobcohjikjalaaGreatDoorSp19
set_option linter.unusedSimpArgs false
namespace Go.Proofs.YteobcohjikjalaaGreatDoor
open Go.RowKit
namespace Hx
open Lx Tr Tx Nmb Es Ns
set_option maxRecDepth 100000
set_option maxHeartbeats 16000000
set_option linter.unusedVariables false
def OkR (g : List Nd → Option (List Nd)) : Prop := ∀ l r, g l = some r → ∃ p, l = p ++ r ∧ ∀ n ∈ p, ndOk n = true
theorem kids_okR {g : List Nd → Option (List Nd)} (hg : OkR g) : ∀ (k : Nat) (b : Bool) (l : List Nd) (b' : Bool) (r : List Nd), kidsD g k b l = some (b', r) → ∃ p, l = p ++ r ∧ ∀ n ∈ p, ndOk n = true
  | 0, b, l, b', r, h => by
    rw [kidsD] at h
    obtain ⟨rfl, rfl⟩ := (Prod.mk.injEq _ _ _ _).mp (Option.some.inj h)
    exact ⟨[], rfl, fun n hn => by cases hn⟩
  | k + 1, b, [], b', r, h => by rw [kidsD] at h; cases h
  | k + 1, b, n :: l, b', r, h => by
    rw [kidsD] at h
    split at h
    · cases h
    · split at h
      · cases h
      · rename_i y hy
        obtain ⟨p, e1, h1⟩ := hg _ _ hy
        obtain ⟨p2, e2, h2⟩ := kids_okR hg k _ _ _ _ h
        refine ⟨p ++ p2, by rw [e1, e2, List.append_assoc], fun m hm => ?_⟩
        rcases List.mem_append.1 hm with hm | hm
        · exact h1 m hm
        · exact h2 m hm
theorem rest_okR : ∀ d, OkR (restD d)
  | d, [], r, h => by cases d <;> (rw [restD] at h; cases h)
  | 0, n :: l, r, h => by
    rw [restD] at h
    split at h
    · rename_i hn
      injection h with h
      subst h
      exact ⟨[n], rfl, fun m hm => by rw [List.mem_singleton] at hm; rw [hm]; exact hn.1⟩
    · cases h
  | d + 1, n :: l, r, h => by
    rw [restD] at h
    split at h
    · rename_i hn
      cases hk : kidsD (restD d) n.many.toNat false l with
      | none => rw [hk] at h; cases h
      | some y =>
        rw [hk] at h
        obtain ⟨b', y⟩ := y
        have h : y = r := Option.some.inj h
        subst h
        obtain ⟨p, e, hp⟩ := kids_okR (rest_okR d) _ _ _ _ _ hk
        refine ⟨n :: p, by rw [e]; rfl, fun m hm => ?_⟩
        rcases List.mem_cons.1 hm with rfl | hm
        · exact hn.1
        · exact hp m hm
    · cases h
theorem may_ndOk {v : List Nd} (h : mayV v = true) : ∀ n ∈ v, ndOk n = true := by
  obtain ⟨_, _, h3⟩ := mayV_iff.1 h
  obtain ⟨p, e, hp⟩ := rest_okR 12 v [] h3
  rw [List.append_nil] at e
  rw [e]
  exact hp
theorem text_mayNs {n : Nd} (h : ndOk n = true) (hk : n.kind ≠ 1) : mayNs n = true := by
  unfold ndOk at h
  rw [if_neg hk] at h
  split at h
  · simp only [Bool.and_eq_true, List.isEmpty_iff] at h
    obtain ⟨⟨⟨⟨⟨_, hs⟩, ha⟩, _⟩, _⟩, _⟩ := h
    unfold mayNs
    rw [hs, ha, decide_eq_true hk]
    rfl
  · cases h
theorem ns_from (v : List Nd) (j : Nat) (t : Nd) (hj : j < v.length) (ha : v[j]'hj = t) : (v.drop j).all mayNs = (mayNs t && (v.drop (j + 1)).all mayNs) := by
  rw [List.drop_eq_getElem_cons hj, List.all_cons, ha]
theorem check11 (A : Option Addr) (n c : Nat) (v : List Nd) (w : World) (hr : RdB NdS w A v) (hn : v.length = n) (hmax : n ≤ 9223372036854775807) (hsm : n ≤ 512 → ∀ m ∈ v, SmallN m) (q : Int) (hq : checkS v = q) :
    Calls Tryz.prog 11 #[.slice A n c] w fun e w' => e = .returned (.int .i64 q) ∧ Below w.heap.size w w' := by
  have HCK := Lib.hid (checkv A n c v w hr hn hmax hsm _ rfl)
  have HR := Lib.hid hr
  have HN := Lib.hid hn
  cases hm : mayV v with
  | false =>
    have e1 : checkV v = 8 := by unfold checkV; rw [hm]; rfl
    obtain rfl : q = 8 := by rw [← hq]; unfold checkS mayS; rw [hm, Bool.and_false]; rfl
    rw [e1] at HCK
    clear hr hn hmax hsm hq hm
    go_enter Tryz.func11, Tryz.ntmps11
    go_wp2_with (first
      | (go_at_call 14; (with_reducible refine (HCK.out).mono ?_); rintro e1 w1 ⟨rfl, hb1⟩; have HB1 := Lib.hid hb1; clear hb1)
      | fail)
    go_ret
    exact ⟨rfl, HB1.out⟩
  | true =>
    have e1 : checkV v = 0 := by unfold checkV; rw [hm]; rfl
    have hn5 : n ≤ 512 := by rw [← hn]; exact (mayV_iff.1 hm).1
    have bn : (n : Int) ≤ 512 := by omega
    have HSM := Lib.hid (hsm hn5)
    have HOK := Lib.hid (may_ndOk hm)
    obtain ⟨qb, hqb⟩ : ∃ qb, v.all mayNs = qb := ⟨_, rfl⟩
    have HQ : Hid (q = if qb = true then 0 else 8) := Lib.hid (by rw [← hq]; unfold checkS mayS; rw [hm, Bool.and_true, hqb])
    have HQB := Lib.hid hqb
    rw [e1] at HCK
    clear hr hn hmax hsm hq hm e1 hqb
    go_enter Tryz.func11, Tryz.ntmps11
    go_wp2_with (first
      | (go_at_call 14; (with_reducible refine (HCK.out).mono ?_); rintro e1 w1 ⟨rfl, hb1⟩; have HB1 := Lib.hid hb1; clear hb1)
      | fail)
    go_loopg [10] n (fun gg i wr => ∃ j : Nat, j + gg = n ∧ i = .int .i64 j ∧ (v.drop j).all mayNs = qb ∧ Below w.heap.size w wr)
    case atStart => exact ⟨0, by omega, rfl, HQB.out, HB1.out⟩
    case round =>
      obtain ⟨j, hjg, rfl, hall, hbw⟩ := hrel
      have HBW := Lib.hid hbw
      by_cases hlt : j < n
      · have hjl : j < v.length := by rw [HN.out]; exact hlt
        obtain ⟨b0, off, x, y, z, A1, c1, hA, hbB, hin, c0w, c1w, c2w, c3w, c4w, c5w⟩ := nd_at HR.out hjl
        have hsm := HSM.out _ (List.getElem_mem hjl)
        have hok := HOK.out _ (List.getElem_mem hjl)
        obtain ⟨t, ht⟩ : ∃ t, v[j]'hjl = t := ⟨_, rfl⟩
        rw [ht] at hin c0w c3w c5w hsm hok
        have c0 := (hbw.cell (p := ⟨b0, _, none⟩) hbB).trans c0w
        have c1' := (hbw.cell (p := ⟨b0, _, none⟩) hbB).trans c1w
        have c2 := (hbw.cell (p := ⟨b0, _, none⟩) hbB).trans c2w
        have c3 := (hbw.cell (p := ⟨b0, _, none⟩) hbB).trans c3w
        have c4 := (hbw.cell (p := ⟨b0, _, none⟩) hbB).trans c4w
        have c5 := (hbw.cell (p := ⟨b0, _, none⟩) hbB).trans c5w
        have hal := ns_from v j t hjl ht
        rw [hall] at hal
        have bj : (0 : Int) ≤ (j : Int) ∧ (j : Int) < (n : Int) := by omega
        have hnd : NdAt t x y z A1 c1 w := hin
        subst hA
        by_cases hk : t.kind = 1
        · obtain ⟨tq, htq⟩ : ∃ tq, mayNs t = tq := ⟨_, rfl⟩
          have HMT : Hid (∀ W, Below w.heap.size w W → Calls Tryz.prog 32 #[.agg #[.int .u8 1, .string x, .string y, .slice A1 t.attrs.length c1, .string z, .int .i64 t.many]] W fun e w' => e = .returned (.bool tq) ∧ Below W.heap.size W w') := Lib.hid fun W hW => by
            have := maytell11 t x y z A1 c1 W (hnd.on hW) hsm hk tq htq
            unfold NdV at this
            rw [hk] at this
            exact this
          rw [hk] at c0
          have c0 : wr.cell? ⟨b0, off + j * 6, none⟩ = some (.int .u8 1) := c0
          rw [htq] at hal
          obtain ⟨W1, hW1⟩ : ∃ W1, wr.alloc (.cells #[.int .u8 1, .string x, .string y, .slice A1 t.attrs.length c1, .string z, .int .i64 t.many] 39) = W1 := ⟨_, rfl⟩
          have HA1 : Hid (Below w.heap.size w W1) := Lib.hid (by rw [← hW1]; exact hbw.alloc hbw.size _)
          have HY1 : Hid (W1.heap[wr.heap.size]? = some (.cells #[.int .u8 1, .string x, .string y, .slice A1 t.attrs.length c1, .string z, .int .i64 t.many] 39 (0, 0))) := Lib.hid (by rw [← hW1]; exact heap_alloc_new wr _)
          have k10 := cellV W1 _ 0 _ _ _ HY1.out
          have k11 := cellV W1 _ 1 _ _ _ HY1.out
          have k12 := cellV W1 _ 2 _ _ _ HY1.out
          have k13 := cellV W1 _ 3 _ _ _ HY1.out
          have k14 := cellV W1 _ 4 _ _ _ HY1.out
          have k15 := cellV W1 _ 5 _ _ _ HY1.out
          have HAL := Lib.hid hal
          clear hall hbw hin hnd c0w c1w c2w c3w c4w c5w hal hsm hok ht hk htq hjl hbB
          cases tq with
          | false =>
            obtain rfl : qb = false := by rw [HAL.out]; rfl
            obtain rfl : q = 8 := HQ.out
            go_wp2_with (first
              | (refine wpList_store_row rfl _ _ _ rfl wr.heap.size #[.int .u8 1, .string x, .string y, .slice A1 t.attrs.length c1, .string z, .int .i64 t.many] rfl rfl 39 #[.int .u8 0, .string ⟨#[]⟩, .string ⟨#[]⟩, .slice none 0 0, .string ⟨#[]⟩, .int .i64 0] (heap_alloc_new _ _) sizeNd rfl (by simp [Value.oneCell']) ?_; rw [World.setRow_alloc_new, hW1])
              | (go_at_call 32; (with_reducible refine (HMT.out W1 HA1.out).mono ?_); rintro e2 w2 ⟨rfl, hb2⟩; have HB2 : Hid (Below w.heap.size w w2) := Lib.hid (bel_in9 HA1.out hb2); clear hb2)
              | fail)
            go_ret
            exact ⟨rfl, HB2.out⟩
          | true =>
            have HAL2 : Hid ((v.drop (j + 1)).all mayNs = qb) := Lib.hid (by rw [HAL.out]; rfl)
            go_wp2_with (first
              | (refine wpList_store_row rfl _ _ _ rfl wr.heap.size #[.int .u8 1, .string x, .string y, .slice A1 t.attrs.length c1, .string z, .int .i64 t.many] rfl rfl 39 #[.int .u8 0, .string ⟨#[]⟩, .string ⟨#[]⟩, .slice none 0 0, .string ⟨#[]⟩, .int .i64 0] (heap_alloc_new _ _) sizeNd rfl (by simp [Value.oneCell']) ?_; rw [World.setRow_alloc_new, hW1])
              | (go_at_call 32; (with_reducible refine (HMT.out W1 HA1.out).mono ?_); rintro e2 w2 ⟨rfl, hb2⟩; have HB2 : Hid (Below w.heap.size w w2) := Lib.hid (bel_in9 HA1.out hb2); clear hb2)
              | fail)
            go_roundg (gk - 1)
            case measure => omega
            case rel => exact ⟨j + 1, by omega, by go_num, HAL2.out, HB2.out⟩
        · have HAL2 : Hid ((v.drop (j + 1)).all mayNs = qb) := Lib.hid (by rw [hal, text_mayNs hok hk]; rfl)
          have hk2 : ¬ ((t.kind : Int) = 1) := by omega
          obtain ⟨W1, hW1⟩ : ∃ W1, wr.alloc (.cells #[.int .u8 (t.kind : Int), .string x, .string y, .slice A1 t.attrs.length c1, .string z, .int .i64 t.many] 39) = W1 := ⟨_, rfl⟩
          have HA1 : Hid (Below w.heap.size w W1) := Lib.hid (by rw [← hW1]; exact hbw.alloc hbw.size _)
          have HY1 : Hid (W1.heap[wr.heap.size]? = some (.cells #[.int .u8 (t.kind : Int), .string x, .string y, .slice A1 t.attrs.length c1, .string z, .int .i64 t.many] 39 (0, 0))) := Lib.hid (by rw [← hW1]; exact heap_alloc_new wr _)
          have k10 := cellV W1 _ 0 _ _ _ HY1.out
          clear hall hbw hin hnd c0w c1w c2w c3w c4w c5w hal hsm hok ht hk hjl hbB
          go_wp2_with (first
            | (refine wpList_store_row rfl _ _ _ rfl wr.heap.size #[.int .u8 (t.kind : Int), .string x, .string y, .slice A1 t.attrs.length c1, .string z, .int .i64 t.many] rfl rfl 39 #[.int .u8 0, .string ⟨#[]⟩, .string ⟨#[]⟩, .slice none 0 0, .string ⟨#[]⟩, .int .i64 0] (heap_alloc_new _ _) sizeNd rfl (by simp [Value.oneCell']) ?_; rw [World.setRow_alloc_new, hW1])
            | fail)
          go_roundg (gk - 1)
          case measure => omega
          case rel => exact ⟨j + 1, by omega, by go_num, HAL2.out, HA1.out⟩
      · obtain rfl : j = n := by omega
        have hjj : ¬ ((j : Int) < (j : Int)) := by omega
        rw [← HN.out, List.drop_length] at hall
        obtain rfl : qb = true := hall.symm
        obtain rfl : q = 0 := HQ.out
        clear hbw hall
        go_wp2_with fail
        go_ret
        exact ⟨rfl, HBW.out⟩
end Hx
end Go.Proofs.YteobcohjikjalaaGreatDoor
set_option linter.unusedSimpArgs false
namespace Go.Proofs.YteobcohjikjalaaGreatDoor
open Go.RowKit
namespace Hx
open Lx Tr Tx Nmb Es Ns
set_option linter.unusedVariables false
theorem walkK_snoc {g : List Nd → (List Nd × Bool) × List Nd} : ∀ (j : Nat) (l : List Nd), walkK g (j + 1) l = (((walkK g j l).1.1 ++ (g (walkK g j l).2).1.1, (walkK g j l).1.2 && (g (walkK g j l).2).1.2), (g (walkK g j l).2).2) := by
  intro j
  induction j with
  | zero => intro l; simp [walkK]
  | succ j ih =>
    intro l
    have h1 : ∀ k, walkK g (k + 1) l = (((g l).1.1 ++ (walkK g k (g l).2).1.1, (g l).1.2 && (walkK g k (g l).2).1.2), (walkK g k (g l).2).2) := fun k => by rw [walkK]
    rw [h1 (j + 1), ih, h1 j]
    simp [Bool.and_assoc]
theorem walkK_no {g : List Nd → (List Nd × Bool) × List Nd} {j k : Nat} {l : List Nd} (h : (walkK g j l).1.2 = false) (hjk : j ≤ k) : (walkK g k l).1.2 = false := by
  obtain ⟨d, rfl⟩ : ∃ d, k = j + d := ⟨k - j, by omega⟩
  clear hjk
  induction d with
  | zero => exact h
  | succ d ih => rw [← Nat.add_assoc, walkK_snoc, ih]; rfl
theorem walkD_text {ε : Type} {f : ε → Nd → Nd × Bool} {dn : ε → Nd → ε} {d : Nat} {e : ε} {n : Nd} {l : List Nd} (hk : n.kind = 2) : walkD f dn d e (n :: l) = (([n], true), l) := by
  cases d with
  | zero => rw [walkD]
  | succ d => rw [walkD, if_pos hk]
theorem walkD_elem {ε : Type} {f : ε → Nd → Nd × Bool} {dn : ε → Nd → ε} {d : Nat} {e : ε} {n : Nd} {l : List Nd} (hk : n.kind ≠ 2) : walkD f dn (d + 1) e (n :: l) = (((f e n).1 :: (walkK (walkD f dn d (dn e n)) n.many.toNat l).1.1, (f e n).2 && (walkK (walkD f dn d (dn e n)) n.many.toNat l).1.2), (walkK (walkD f dn d (dn e n)) n.many.toNat l).2) := by
  rw [walkD, if_neg hk]
theorem names_nodup {l : List At} (h : (l.map key).Nodup) (hr : ∀ a ∈ l, a.space = []) : (l.map (·.name)).Nodup := by
  unfold List.Nodup at h ⊢
  rw [List.pairwise_map] at h ⊢
  refine List.Pairwise.imp_of_mem (fun {a b} ha hb hab e => hab ?_) h
  unfold key
  rw [hr a ha, hr b hb, e]
def OffN (base : Nat) (V : Value) (w : World) (k : Nat) : Prop := base ≤ k ∧ k < w.heap.size ∧ some k ≠ V.ownBlock
structure RwSt (clo : Value) (tc : TypeId) (B base gv gl gt : Nat) (A : Option Addr) (c : Nat) (v : List Nd) (L : List NB) (V : Value) (wr : World) : Prop where
  hv : wr.heap[gv]? = some (.cells #[.slice A v.length c] 22 (0, 0))
  hl : wr.heap[gl]? = some (.cells #[V] 22 (0, 0))
  ht : wr.heap[gt]? = some (.cells #[clo] tc (0, 0))
  rd : RdS NdS wr (fun b => b < B) A v
  own : wr.ownsRow base 39 6 V L.length (L.flatMap nbCells)
  nd : ∀ b ∈ L, NdIn b.n b.x b.y b.z b.A b.c wr (OffN base V wr)
  ord : B ≤ gv ∧ gv < gl ∧ gl < gt ∧ gt < base
  sz : base ≤ wr.heap.size
structure FrR (B gl : Nat) (V : Value) (w : World) (V' : Value) (w' : World) : Prop where
  bel : Below B w w'
  blk : ∀ k, k < w.heap.size → k ≠ gl → some k ≠ V.ownBlock → w'.heap[k]? = w.heap[k]?
  lie : ∀ k, k < w.heap.size → V'.ownBlock = some k → V.ownBlock = some k
theorem FrR.refl (B gl : Nat) (V : Value) (w : World) : FrR B gl V w V w := ⟨Below.refl _ _, fun _ _ _ _ => rfl, fun _ _ h => h⟩
theorem FrR.trans {B gl : Nat} {V V1 V2 : Value} {w w1 w2 : World} (h : FrR B gl V w V1 w1) (k : FrR B gl V1 w1 V2 w2) : FrR B gl V w V2 w2 :=
  ⟨h.bel.trans k.bel, fun q h1 h3 h4 => (k.blk q (Nat.lt_of_lt_of_le h1 h.bel.size) h3 (fun e => h4 (h.lie q h1 e.symm).symm)).trans (h.blk q h1 h3 h4), fun q h1 h2 => h.lie q h1 (k.lie q (Nat.lt_of_lt_of_le h1 h.bel.size) h2)⟩
theorem FrR.of_below {B gl : Nat} {V : Value} {w w' : World} (h : Below w.heap.size w w') (hB : B ≤ w.heap.size) : FrR B gl V w V w' := ⟨h.mono hB, fun k hk _ _ => h.block k hk, fun _ _ e => e⟩
theorem FrR.map {B gl base m : Nat} {V V' : Value} {w w' : World} {D : List (List UInt8 × AB)} {n : Nat} {xs : List Value} {x : Value} {T : TypeId} (h : FrR B gl V w V' w') (hm : MapD w m D) (ho : w.ownsRow base 39 6 V n xs) (hl : w.heap[gl]? = some (.cells #[x] T (0, 0))) : MapD w' m D := by
  obtain ⟨es, cl, hb, he⟩ := hm
  refine MapD.kept ⟨es, cl, hb, he⟩ (h.blk m (lt_heap hb) (fun e => ?_) fun e => ?_)
  · rw [e, hl] at hb; cases hb
  · rcases ho.2 with ⟨e1, _⟩ | ⟨g, cap, cur, e1, _, h2, _⟩
    · rw [e1] at e; cases e
    · rw [e1] at e
      have e : m = g := by simpa [Value.ownBlock] using e
      rw [e, h2] at hb
      cases hb
section
variable {clo : Value} {tc : TypeId} {B base gv gl gt : Nat} {A : Option Addr} {c : Nat} {v : List Nd} {L : List NB} {V : Value} {wr : World}
theorem RwSt.below (h : RwSt clo tc B base gv gl gt A c v L V wr) {w' : World} (k : Below wr.heap.size wr w') : RwSt clo tc B base gv gl gt A c v L V w' :=
  ⟨kept_heap h.hv k, kept_heap h.hl k, kept_heap h.ht k, h.rd.keep (fun _ hb => hb) fun b o hb => k.cell (p := ⟨b, o, none⟩) (by have := h.ord.1; have := lt_heap h.hv; show b < _; omega), own_belowK h.own k (Nat.le_refl _),
   fun b hb => (h.nd b hb).keep (fun q hq => ⟨hq.1, Nat.lt_of_lt_of_le hq.2.1 k.size, hq.2.2⟩) fun q o hq => k.cell (p := ⟨q, o, none⟩) hq.2.1, h.ord, Nat.le_trans h.sz k.size⟩
theorem RwSt.push (h : RwSt clo tc B base gv gl gt A c v L V wr) {b : NB} {ob : Obj} {w6 : World} {g4 c4 : Nat} (hR : NdIn b.n b.x b.y b.z b.A b.c wr (OffN base V wr))
    (hown : w6.ownsRow base 39 6 (.slice (some ⟨g4, 0, none⟩) (L.length + 1) c4) (L.length + 1) (L.flatMap nbCells ++ nbCells b)) (hgr : (wr.alloc ob).grownBy w6 V.ownBlock) (hlie : V.ownBlock = some g4 ∨ g4 = wr.heap.size + 1) :
    RwSt clo tc B base gv gl gt A c v (L ++ [b]) (.slice (some ⟨g4, 0, none⟩) (L.length + 1) c4) (w6.setCell ⟨gl, 0, none⟩ (.slice (some ⟨g4, 0, none⟩) (L.length + 1) c4)) ∧
    FrR B gl V wr (.slice (some ⟨g4, 0, none⟩) (L.length + 1) c4) (w6.setCell ⟨gl, 0, none⟩ (.slice (some ⟨g4, 0, none⟩) (L.length + 1) c4)) := by
  have ho := h.ord
  have hsz := h.sz
  have hs6 := hgr.size
  rw [World.size_alloc] at hs6
  have hV : ∀ q, V.ownBlock = some q → base ≤ q ∧ q < wr.heap.size := fun q hq => h.own.lt q hq
  have stay : ∀ q, q < wr.heap.size → some q ≠ V.ownBlock → w6.heap[q]? = wr.heap[q]? := fun q hq hne => by
    rw [hgr.block q (by rw [World.size_alloc]; omega) hne, Below.heap_alloc _ _ _ hq]
  have low : ∀ q, q < base → some q ≠ V.ownBlock := fun q hq e => by have := (hV q e.symm).1; omega
  have all : ∀ q, q < wr.heap.size → q ≠ gl → some q ≠ V.ownBlock → (w6.setCell ⟨gl, 0, none⟩ (.slice (some ⟨g4, 0, none⟩) (L.length + 1) c4)).heap[q]? = wr.heap[q]? := fun q hq hne hne2 => (set_other w6 gl 0 q _ hne).trans (stay q hq hne2)
  have hlen : (L ++ [b]).length = L.length + 1 := by simp
  have new : ∀ (b' : NB), NdIn b'.n b'.x b'.y b'.z b'.A b'.c wr (OffN base V wr) → NdIn b'.n b'.x b'.y b'.z b'.A b'.c (w6.setCell ⟨gl, 0, none⟩ (.slice (some ⟨g4, 0, none⟩) (L.length + 1) c4)) (OffN base (.slice (some ⟨g4, 0, none⟩) (L.length + 1) c4) (w6.setCell ⟨gl, 0, none⟩ (.slice (some ⟨g4, 0, none⟩) (L.length + 1) c4))) := fun b' h1 =>
    h1.keep (fun q hq => ⟨hq.1, by have := hq.2.1; rw [World.size_setCell]; omega, fun e2 => by
      have e3 : q = g4 := by simpa [Value.ownBlock] using e2
      rcases hlie with e4 | e4
      · exact hq.2.2 (by rw [e4, e3])
      · have := hq.2.1; omega⟩) fun q o hq => cell_blk (all q hq.2.1 (by have := hq.1; omega) hq.2.2)
  refine ⟨⟨(all gv (by omega) (by omega) (low _ (by omega))).trans h.hv, one_setCell ((stay gl (by omega) (low _ (by omega))).trans h.hl), (all gt (by omega) (by omega) (low _ (by omega))).trans h.ht,
    h.rd.keep (fun _ hb => hb) fun q o hb => cell_blk (all q (by omega) (by omega) (low _ (by omega))), ?_, fun b' hb => ?_, h.ord, by rw [World.size_setCell]; omega⟩, ?_, fun k hk h2 h3 => all k hk h2 h3, fun k hk e => ?_⟩
  · have := own_setCell hown gl 0 (by omega) (.slice (some ⟨g4, 0, none⟩) (L.length + 1) c4)
    rw [hlen, List.flatMap_append]
    simpa using this
  · rcases List.mem_append.1 hb with hb | hb
    · exact new b' (h.nd b' hb)
    · obtain rfl := List.mem_singleton.1 hb
      exact new _ hR
  · exact (((Below.refl B wr).alloc (by omega) ob).grown hgr (by rw [World.size_alloc]; omega) (fun q hq => by have := (hV q hq).1; omega)).setCell (p := ⟨gl, 0, none⟩) (by show B ≤ gl; omega) _
  · have e3 : g4 = k := by simpa [Value.ownBlock] using e
    rcases hlie with e4 | e4
    · rw [e4, e3]
    · omega
theorem RwSt.read (h : RwSt clo tc B base gv gl gt A c v L V wr) : ∃ A1 c1, V = .slice A1 L.length c1 ∧ RdB NdS wr A1 (L.map NB.n) := by
  obtain ⟨A1, c1, rfl⟩ := own_form2 h.own
  obtain ⟨r1, r2, r3, r4, r5⟩ := RdS.of_own (C := NdS) (S := fun b => b < wr.heap.size) nbCells NB.n (fun _ => rfl) (by decide) L (fun b hm => ⟨b.x, b.y, b.z, b.A, b.c, rfl, (h.nd b hm).keep (fun k hk => hk.2.1) fun _ _ _ => rfl⟩) (fun g hg => (h.own.lt g hg).2) h.own
  exact ⟨A1, c1, rfl, r1⟩
end
end Hx
end Go.Proofs.YteobcohjikjalaaGreatDoor
