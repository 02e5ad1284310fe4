/-
  Texts of one seat, put together: TreV, TreX, TreZ, TrwB.
-/
import Derived.Test.YtbjgfaflikgobaaGreatDoorH33
import Derived.Test.YtbjgfaflikgobaaGreatDoorH34
import Derived.Test.YtbjgfaflikgobaaGreatDoorH32
import Derived.Test.YtbjgfaflikgobaaGreatDoorH41
import Derived.Test.YtbjgfaflikgobaaGreatDoorH38
import Derived.Test.YtbjgfaflikgobaaGreatDoorH40
namespace Go.Proofs.YtbjgfaflikgobaaGreatDoor
open Go.RowKit
namespace Hx
open Lx Tr Tx Nmb Es
set_option linter.unusedVariables false
set_option maxHeartbeats 16000000 in
set_option maxRecDepth 100000 in
theorem put_no0 (n : Nd) (x y z : ByteArray) (A : Option Addr) (c : Nat) (A2 : Option Addr) (m c2 : Nat) (ls : List (List Nd)) (w : World) (h : NdAt n x y z A c w) (hs : SmallN n) (hr : RdB (SlS NdS) w A2 ls) (hm : ls.length = m) (hmax : m ≤ 100000) (hsm : ∀ v ∈ ls, v.length ≤ 100000 ∧ ∀ b ∈ v, SmallN b) (hv : mayV [withM n 0] = false) :
    Calls Tryz.prog 25 #[NdV n x y z A c, .slice A2 m c2] w (PutsTo n ls w) := by
  have hb0 : Below w.heap.size w (w.alloc (.cells #[.int .u8 (n.kind : Int), .string x, .string y, .slice A n.attrs.length c, .string z, .int .i64 0] 36)) := stpA (Below.refl _ _) _
  have hn0 : NdIn (withM n 0) x y z A c (w.alloc (.cells #[.int .u8 (n.kind : Int), .string x, .string y, .slice A n.attrs.length c, .string z, .int .i64 0] 36)) (fun k => k < (w.alloc (.cells #[.int .u8 (n.kind : Int), .string x, .string y, .slice A n.attrs.length c, .string z, .int .i64 0] 36)).heap.size) := NdAt.on (NdIn.many h 0 (by decide) (by decide)) hb0
  have hrow : RdB NdS ((w.alloc (.cells #[.int .u8 (n.kind : Int), .string x, .string y, .slice A n.attrs.length c, .string z, .int .i64 0] 36)).alloc (.cells #[.int .u8 (n.kind : Int), .string x, .string y, .slice A n.attrs.length c, .string z, .int .i64 0] 36)) (some ⟨(w.alloc (.cells #[.int .u8 (n.kind : Int), .string x, .string y, .slice A n.attrs.length c, .string z, .int .i64 0] 36)).heap.size, 0, none⟩) [withM n 0] := one_row hn0
  rw [World.size_alloc] at hrow
  have hck := fun q hq => checkv _ 1 1 [withM n 0] _ hrow rfl (by decide) (fun _ b hb => by rw [List.mem_singleton] at hb; rw [hb]; exact hs.many 0) q hq
  have HB2 : Hid (Below w.heap.size w ((w.alloc (.cells #[.int .u8 (n.kind : Int), .string x, .string y, .slice A n.attrs.length c, .string z, .int .i64 0] 36)).alloc (.cells #[.int .u8 (n.kind : Int), .string x, .string y, .slice A n.attrs.length c, .string z, .int .i64 0] 36))) := Lib.hid (stpA hb0 _)
  have HX2 : Hid (((w.alloc (.cells #[.int .u8 (n.kind : Int), .string x, .string y, .slice A n.attrs.length c, .string z, .int .i64 0] 36)).alloc (.cells #[.int .u8 (n.kind : Int), .string x, .string y, .slice A n.attrs.length c, .string z, .int .i64 0] 36)).heap[w.heap.size]? = some (.cells #[.int .u8 (n.kind : Int), .string x, .string y, .slice A n.attrs.length c, .string z, .int .i64 0] 36 (0, 0))) := Lib.hid (kept_heap (heap_alloc_new w _) (stpA (Below.refl _ _) _))
  unfold NdV
  have HC := Lib.hid (hck 8 (by unfold checkV; rw [hv]; rfl))
  have HP : Hid (putN n ls = ([], 8)) := Lib.hid (by unfold putN; rw [hv]; rfl)
  clear h hs hr hm hmax hsm hb0 hn0 hrow hck hv
  go_enter Tryz.func25, Tryz.ntmps25
  go_wp2_with (first
    | (go_at_call 20; (with_reducible refine (HC.out).mono ?_); rintro e1 w1 ⟨rfl, hb1⟩)
    | fail)
  go_ret2
  exact PutsTo.bad HP.out (stp HB2.out hb1)
set_option maxHeartbeats 16000000 in
set_option maxRecDepth 100000 in
theorem put_no1 (n : Nd) (x y z : ByteArray) (A : Option Addr) (c : Nat) (A2 : Option Addr) (m c2 : Nat) (ls : List (List Nd)) (w : World) (h : NdAt n x y z A c w) (hs : SmallN n) (hr : RdB (SlS NdS) w A2 ls) (hm : ls.length = m) (hmax : m ≤ 100000) (hsm : ∀ v ∈ ls, v.length ≤ 100000 ∧ ∀ b ∈ v, SmallN b) (hv : mayV [withM n 0] = true) (hp : ls.all partOk = false) :
    Calls Tryz.prog 25 #[NdV n x y z A c, .slice A2 m c2] w (PutsTo n ls w) := by
  have hb0 : Below w.heap.size w (w.alloc (.cells #[.int .u8 (n.kind : Int), .string x, .string y, .slice A n.attrs.length c, .string z, .int .i64 0] 36)) := stpA (Below.refl _ _) _
  have hn0 : NdIn (withM n 0) x y z A c (w.alloc (.cells #[.int .u8 (n.kind : Int), .string x, .string y, .slice A n.attrs.length c, .string z, .int .i64 0] 36)) (fun k => k < (w.alloc (.cells #[.int .u8 (n.kind : Int), .string x, .string y, .slice A n.attrs.length c, .string z, .int .i64 0] 36)).heap.size) := NdAt.on (NdIn.many h 0 (by decide) (by decide)) hb0
  have hrow : RdB NdS ((w.alloc (.cells #[.int .u8 (n.kind : Int), .string x, .string y, .slice A n.attrs.length c, .string z, .int .i64 0] 36)).alloc (.cells #[.int .u8 (n.kind : Int), .string x, .string y, .slice A n.attrs.length c, .string z, .int .i64 0] 36)) (some ⟨(w.alloc (.cells #[.int .u8 (n.kind : Int), .string x, .string y, .slice A n.attrs.length c, .string z, .int .i64 0] 36)).heap.size, 0, none⟩) [withM n 0] := one_row hn0
  rw [World.size_alloc] at hrow
  have hck := fun q hq => checkv _ 1 1 [withM n 0] _ hrow rfl (by decide) (fun _ b hb => by rw [List.mem_singleton] at hb; rw [hb]; exact hs.many 0) q hq
  have HB2 : Hid (Below w.heap.size w ((w.alloc (.cells #[.int .u8 (n.kind : Int), .string x, .string y, .slice A n.attrs.length c, .string z, .int .i64 0] 36)).alloc (.cells #[.int .u8 (n.kind : Int), .string x, .string y, .slice A n.attrs.length c, .string z, .int .i64 0] 36))) := Lib.hid (stpA hb0 _)
  have HX2 : Hid (((w.alloc (.cells #[.int .u8 (n.kind : Int), .string x, .string y, .slice A n.attrs.length c, .string z, .int .i64 0] 36)).alloc (.cells #[.int .u8 (n.kind : Int), .string x, .string y, .slice A n.attrs.length c, .string z, .int .i64 0] 36)).heap[w.heap.size]? = some (.cells #[.int .u8 (n.kind : Int), .string x, .string y, .slice A n.attrs.length c, .string z, .int .i64 0] 36 (0, 0))) := Lib.hid (kept_heap (heap_alloc_new w _) (stpA (Below.refl _ _) _))
  unfold NdV
  have HC := Lib.hid (hck 0 (by unfold checkV; rw [hv]; rfl))
  have HE : Hid (∀ W, Below w.heap.size w W → Calls Tryz.prog 60 #[.slice A2 m c2, .func (.func 61) #[] #[]] W fun e w' => e = .returned (.int .i64 8) ∧ Below W.heap.size W w') := Lib.hid fun W hW => each_parts A2 m c2 ls W (hr.on hW) hm hmax hsm 8 (by unfold partsE; rw [hp]; rfl)
  have HP : Hid (putN n ls = ([], 8)) := Lib.hid (by unfold putN; rw [hv, hp]; rfl)
  clear h hs hr hm hmax hsm hb0 hn0 hrow hck hv hp
  go_enter Tryz.func25, Tryz.ntmps25
  go_wp2_with (first
    | (go_at_call 20; (with_reducible refine (HC.out).mono ?_); rintro e1 w1 ⟨rfl, hb1⟩; have HB1 := Lib.hid hb1; clear hb1)
    | (go_at_call 60; (with_reducible refine (HE.out _ (stp HB2.out HB1.out)).mono ?_); rintro e2 w2 ⟨rfl, hb2⟩)
    | fail)
  go_ret2
  exact PutsTo.bad HP.out (stp (stp HB2.out HB1.out) hb2)
set_option maxHeartbeats 16000000 in
set_option maxRecDepth 100000 in
theorem put_go (n : Nd) (x y z : ByteArray) (A : Option Addr) (c : Nat) (A2 : Option Addr) (m c2 : Nat) (ls : List (List Nd)) (w : World) (h : NdAt n x y z A c w) (hs : SmallN n) (hr : RdB (SlS NdS) w A2 ls) (hm : ls.length = m) (hmax : m ≤ 100000) (hsm : ∀ v ∈ ls, v.length ≤ 100000 ∧ ∀ b ∈ v, SmallN b) (hv : mayV [withM n 0] = true) (hp : ls.all partOk = true) :
    Calls Tryz.prog 25 #[NdV n x y z A c, .slice A2 m c2] w (PutsTo n ls w) := by
  obtain ⟨i0, hi, hz0, hz1, hz2⟩ := info_parts infoNd
  have HI := Lib.hid hi
  have HZ0 := Lib.hid hz0
  have HZ1 := Lib.hid hz1
  have HZ2 := Lib.hid hz2
  clear hi hz0 hz1 hz2
  have hb0 : Below w.heap.size w (w.alloc (.cells #[.int .u8 (n.kind : Int), .string x, .string y, .slice A n.attrs.length c, .string z, .int .i64 0] 36)) := stpA (Below.refl _ _) _
  have hn0 : NdIn (withM n 0) x y z A c (w.alloc (.cells #[.int .u8 (n.kind : Int), .string x, .string y, .slice A n.attrs.length c, .string z, .int .i64 0] 36)) (fun k => k < (w.alloc (.cells #[.int .u8 (n.kind : Int), .string x, .string y, .slice A n.attrs.length c, .string z, .int .i64 0] 36)).heap.size) := NdAt.on (NdIn.many h 0 (by decide) (by decide)) hb0
  have hrow : RdB NdS ((w.alloc (.cells #[.int .u8 (n.kind : Int), .string x, .string y, .slice A n.attrs.length c, .string z, .int .i64 0] 36)).alloc (.cells #[.int .u8 (n.kind : Int), .string x, .string y, .slice A n.attrs.length c, .string z, .int .i64 0] 36)) (some ⟨(w.alloc (.cells #[.int .u8 (n.kind : Int), .string x, .string y, .slice A n.attrs.length c, .string z, .int .i64 0] 36)).heap.size, 0, none⟩) [withM n 0] := one_row hn0
  rw [World.size_alloc] at hrow
  have hck := fun q hq => checkv _ 1 1 [withM n 0] _ hrow rfl (by decide) (fun _ b hb => by rw [List.mem_singleton] at hb; rw [hb]; exact hs.many 0) q hq
  have HB2 : Hid (Below w.heap.size w ((w.alloc (.cells #[.int .u8 (n.kind : Int), .string x, .string y, .slice A n.attrs.length c, .string z, .int .i64 0] 36)).alloc (.cells #[.int .u8 (n.kind : Int), .string x, .string y, .slice A n.attrs.length c, .string z, .int .i64 0] 36))) := Lib.hid (stpA hb0 _)
  have HX2 : Hid (((w.alloc (.cells #[.int .u8 (n.kind : Int), .string x, .string y, .slice A n.attrs.length c, .string z, .int .i64 0] 36)).alloc (.cells #[.int .u8 (n.kind : Int), .string x, .string y, .slice A n.attrs.length c, .string z, .int .i64 0] 36)).heap[w.heap.size]? = some (.cells #[.int .u8 (n.kind : Int), .string x, .string y, .slice A n.attrs.length c, .string z, .int .i64 0] 36 (0, 0))) := Lib.hid (kept_heap (heap_alloc_new w _) (stpA (Below.refl _ _) _))
  unfold NdV
  have HC := Lib.hid (hck 0 (by unfold checkV; rw [hv]; rfl))
  have HE : Hid (∀ W, Below w.heap.size w W → Calls Tryz.prog 60 #[.slice A2 m c2, .func (.func 61) #[] #[]] W fun e w' => e = .returned (.int .i64 0) ∧ Below W.heap.size W w') := Lib.hid fun W hW => each_parts A2 m c2 ls W (hr.on hW) hm hmax hsm 0 (by unfold partsE; rw [hp]; rfl)
  have HPU : Hid (putN n ls = (if 512 < 1 + ls.flatten.length then ([], 4) else if mayV (withM n ls.length :: ls.flatten) = true then (withM n ls.length :: ls.flatten, 0) else ([], 8))) := Lib.hid (by unfold putN; rw [if_pos hv, if_pos hp])
  have HR := Lib.hid hr
  have HM := Lib.hid hm
  have HMX := Lib.hid hmax
  have HSM := Lib.hid hsm
  have HALLP := Lib.hid hp
  have HN := Lib.hid (NdIn.many h (m : Int) (by omega) (by omega))
  have HSN := Lib.hid (hs.many (m : Int))
  have bm : (0 : Int) ≤ (m : Int) ∧ (m : Int) ≤ 100000 := by omega
  clear h hs hr hm hmax hsm hb0 hn0 hrow hck hv hp
  go_enter Tryz.func25, Tryz.ntmps25
  go_wp2_with (first
    | (go_at_call 20; (with_reducible refine (HC.out).mono ?_); rintro e1 w1 ⟨rfl, hb1⟩; have HB1 := Lib.hid hb1; clear hb1)
    | (go_at_call 60; (with_reducible refine (HE.out _ (stp HB2.out HB1.out)).mono ?_); rintro e2 w2 ⟨rfl, hb2⟩; have HB3 := Lib.hid (stp (stp HB2.out HB1.out) hb2); have HX3 := Lib.hid (kept_heap (kept_heap HX2.out HB1.out) hb2); have k5 := cellV w2 _ 5 _ _ _ HX3.out; have f5 := freeV w2 _ 5 _ _ HX3.out; have HX4 := Lib.hid (heap_setCell_same w2 w.heap.size 5 _ _ (.int .i64 (m : Int)) HX3.out); clear hb2)
    | (refine wpList_load_row rfl _ _ rfl w.heap.size rfl 36 #[.int .u8 (n.kind : Int), .string x, .string y, .slice A n.attrs.length c, .string z, .int .i64 (m : Int)] (0, 0) _ HX4.out Tryz.underlying36 rfl infoNdS ?_)
    | fail)
  have HW3 : Hid (Below w.heap.size w (w2.setCell ⟨w.heap.size, 5, none⟩ (.int .i64 (m : Int)))) := Lib.hid (HB3.out.setCell (p := ⟨w.heap.size, 5, none⟩) (Nat.le_refl _) _)
  have HST0 := Lib.hid (put_first HN.out HW3.out)
  clear k5 f5
  go_loopg [8, 31] m (fun gg x8 i wr => ∃ (k : Nat) (L : List NB), k + gg = m ∧ i = .int .i64 k ∧ L.map NB.n = withM n m :: (ls.take k).flatten ∧ L.length ≤ 512 ∧ NdSt 0 w L x8 wr)
  case atStart => exact ⟨0, [⟨withM n m, x, y, z, A, c⟩], by omega, rfl, rfl, by rw [List.length_singleton]; decide, HST0.out⟩
  case round =>
    obtain ⟨k, L, hk, rfl, hmap, hlen, hst⟩ := hrel
    obtain ⟨Ao, co, rfl⟩ := own_form2 hst.1
    have HST := Lib.hid hst
    have HMAP := Lib.hid hmap
    have HLE := Lib.hid hlen
    have hm := HMX.out
    by_cases hlt : k < m
    · have hk1 : k < ls.length := by rw [HM.out]; exact hlt
      obtain ⟨b0, off, A1, c1, hA, hbB, hc, -, -, -, hrd⟩ := sl_at (HR.out.on hst.2.2) hk1
      have hrd0 := (sl_at HR.out hk1)
      obtain ⟨v, hv⟩ : ∃ v, ls[k]'hk1 = v := ⟨_, rfl⟩
      have hpo : partOk v = true := by rw [← hv]; exact List.all_eq_true.1 HALLP.out _ (List.getElem_mem hk1)
      obtain ⟨hp0, hp5⟩ := partOk_len hpo
      rw [hv] at hc hrd
      obtain ⟨p, hp⟩ : ∃ p, v.length = p := ⟨_, rfl⟩
      rw [hp] at hc hp0 hp5
      obtain ⟨b9, of9, A9', c9', hA9, hb9, hc9, -, -, -, hrd9⟩ := sl_at HR.out hk1
      have eA : A1 = A9' := by
        rw [hA] at hA9
        injection hA9 with e1
        injection e1 with e1 e2 _
        subst e1 e2
        have h7 := (hst.2.2.cell (p := ⟨b0, off + k, none⟩) hb9).trans hc9
        rw [hv, hp, hc] at h7
        injection h7 with h7
        injection h7
      subst eA
      rw [hv] at hrd9
      obtain ⟨b1, of1, hA1, hb1B, _⟩ := hrd9 (by rw [hp]; exact hp0)
      subst hA1
      obtain ⟨M, hM1, hM2, hM3⟩ := nodes_of hrd9
      have hML : M.length = p := by rw [← hp, ← hM1, List.length_map]
      have HNEWS : Hid (∀ (j : Nat) (u : Value), (M.flatMap nbCells)[j]? = some u → wr.cell? ((⟨b1, of1, none⟩ : Addr).add j) = some u) := Lib.hid fun j u hu => by
        have h8 := hM3 j u hu
        rw [addr_plain] at h8 ⊢
        exact (hst.2.2.cell (p := ⟨b1, _, none⟩) hb1B).trans h8
      have HM2' : Hid (∀ b ∈ M, NdIn b.n b.x b.y b.z b.A b.c wr (fun k => k < w.heap.size)) := Lib.hid fun b hb => (hM2 b hb).keep (fun _ h => h) fun bl o hlt => hst.2.2.cell (p := ⟨bl, o, none⟩) hlt
      have HFL : Hid ((M.flatMap nbCells).length = p * 6) := Lib.hid (by rw [flat_len nbCells 6 (fun _ => rfl), hML])
      have HML := Lib.hid hML
      have HM1 : Hid (M.map NB.n = v) := Lib.hid hM1
      have HPV : Hid (v.length = p) := Lib.hid hp
      have HP5 : Hid (0 < p ∧ p ≤ 512) := Lib.hid ⟨hp0, hp5⟩
      have HMAP2 : Hid ((L ++ M).map NB.n = withM n m :: (ls.take (k + 1)).flatten) := Lib.hid (by
        rw [List.map_append, hmap, hM1, List.take_succ_eq_append_getElem hk1, List.flatten_append, hv]
        simp)
      have HBIG : Hid (512 < L.length + p → putN n ls = ([], 4)) := Lib.hid fun hb => by
        rw [HPU.out, if_pos]
        have e1 : (L ++ M).length = 1 + (ls.take (k + 1)).flatten.length := by
          have := congrArg List.length HMAP2.out
          rw [List.length_map, List.length_cons] at this
          omega
        have e2 : (ls.take (k + 1)).flatten.length ≤ ls.flatten.length := by
          conv => rhs; rw [← List.take_append_drop (k + 1) ls, List.flatten_append, List.length_append]
          omega
        rw [List.length_append] at e1
        omega
      have bk : (0 : Int) ≤ (k : Int) ∧ (k : Int) < (m : Int) := by omega
      have HKG := Lib.hid hk
      have HBO : Hid (Below w.heap.size w wr) := Lib.hid hst.2.2
      subst hA
      clear hst hmap hrd hrd0 hpo hp0 hp5 hv hp hk1 hM1 hM2 hM3 hML hrd9 hc9 hA9 hb9 hb1B hk hlen hbB
      by_cases h5 : 512 < L.length + p
      · have f5 : decide ((512 : Int) < ((L.length + p : Nat) : Int)) = true := decide_eq_true (by omega)
        have f6 : decide ((512 : Int) < (L.length : Int) + (p : Int)) = true := decide_eq_true (by omega)
        have HP := Lib.hid (HBIG.out h5)
        go_wp2_with (first
          | (at_builtin; refine wpList_append_own_at _ rfl (.tmp 35) (.tmp 36) 24 rfl w.heap.size 36 i0 (.agg #[.int .u8 0, .string ⟨#[]⟩, .string ⟨#[]⟩, .slice none 0 0, .string ⟨#[]⟩, .int .i64 0]) 6 88 Tryz.underlying24 HI.out HZ0.out HZ1.out HZ2.out rfl (by decide) _ L.length _ rfl HST.out.1 ⟨b1, of1, none⟩ p c1 (M.flatMap nbCells) rfl HFL.out HNEWS.out (nb_one M) (by have := HLE.out; have := HP5.out; unfold maxLen; omega) (by have := HLE.out; have := HP5.out; omega) HBO.out.size ?_; intro v5 w5 hown5 hgr5 _ hlie; obtain ⟨A5, c5', rfl⟩ := own_form2 hown5; have HX5 := Lib.hid (part_fin HST.out rfl HM1.out HM2'.out (by rw [HPV.out]; exact hown5) hgr5 hlie); clear hown5 hgr5 hlie)
          | fail)
        go_ret2
        exact PutsTo.bad HP.out HX5.out.2.2
      · have f5 : decide ((512 : Int) < ((L.length + p : Nat) : Int)) = false := decide_eq_false (by omega)
        have f6 : decide ((512 : Int) < (L.length : Int) + (p : Int)) = false := decide_eq_false (by omega)
        go_wp2_with (first
          | (at_builtin; refine wpList_append_own_at _ rfl (.tmp 35) (.tmp 36) 24 rfl w.heap.size 36 i0 (.agg #[.int .u8 0, .string ⟨#[]⟩, .string ⟨#[]⟩, .slice none 0 0, .string ⟨#[]⟩, .int .i64 0]) 6 88 Tryz.underlying24 HI.out HZ0.out HZ1.out HZ2.out rfl (by decide) _ L.length _ rfl HST.out.1 ⟨b1, of1, none⟩ p c1 (M.flatMap nbCells) rfl HFL.out HNEWS.out (nb_one M) (by have := HLE.out; have := HP5.out; unfold maxLen; omega) (by have := HLE.out; have := HP5.out; omega) HBO.out.size ?_; intro v5 w5 hown5 hgr5 _ hlie; obtain ⟨A5, c5', rfl⟩ := own_form2 hown5; have HX5 := Lib.hid (part_fin HST.out rfl HM1.out HM2'.out (by rw [HPV.out]; exact hown5) hgr5 hlie); clear hown5 hgr5 hlie)
          | fail)
        go_roundg (gk - 1)
        case rel => exact ⟨k + 1, L ++ M, by have := HKG.out; omega, by go_num, HMAP2.out, by rw [List.length_append, HML.out]; omega, HX5.out⟩
        case measure => have := HKG.out; omega
    · obtain rfl : k = m := by omega
      obtain ⟨h1, h2⟩ := hst.read (Nat.zero_le _)
      have h2 : Hid True := Lib.hid trivial
      rw [hmap, ← HM.out, List.take_length] at h1
      rw [HM.out] at h1
      obtain ⟨V, hV⟩ : ∃ V, withM n (k : Int) :: ls.flatten = V := ⟨_, rfl⟩
      have hVL : V.length = L.length := by
        have := congrArg List.length hmap
        rw [List.length_map, ← HM.out, List.take_length, List.length_cons] at this
        rw [← hV, List.length_cons]
        omega
      rw [hV] at h1
      have hsmV : ∀ b ∈ V, SmallN b := by
        rw [← hV]
        intro b hb
        rcases List.mem_cons.1 hb with rfl | hb
        · exact HSN.out
        · obtain ⟨l, hl, hbl⟩ := List.mem_flatten.1 hb
          exact (HSM.out l hl).2 b hbl
      have hle : ¬ 512 < 1 + ls.flatten.length := by
        rw [← hV, List.length_cons] at hVL
        omega
      have hpu := HPU.out
      rw [if_neg hle, HM.out, hV] at hpu
      have HOUT : Hid (RdB NdS wr Ao V) := Lib.hid h1.all
      have HVL := Lib.hid hVL
      have HBW := Lib.hid hst.2.2
      have hlen2 := hlen
      cases hmv : mayV V with
      | true =>
        rw [hmv, if_pos rfl] at hpu
        have HP := Lib.hid hpu
        have HCK := Lib.hid (checkv Ao L.length co V wr HOUT.out hVL (by omega) (fun _ => hsmV) 0 (by unfold checkV; rw [hmv]; rfl))
        have HTW : Hid (∀ W, Below wr.heap.size wr W → Calls Tryz.prog 46 #[.slice Ao L.length co] W (TwinTo V W)) := Lib.hid fun W hW => twin10 Ao L.length co V W (HOUT.out.on hW) hVL (by omega) hsmV
        clear hst hmap h1 h2 hV hVL hsmV hle hpu hmv
        go_wp2_with (first
          | (go_at_call 20; (with_reducible refine (HCK.out).mono ?_); rintro e3 w3 ⟨rfl, hb3⟩; have HB4 := Lib.hid hb3; clear hb3)
          | (go_at_call 46; (with_reducible refine (HTW.out _ HB4.out).mono ?_); rintro e4 w4 ⟨A4, c4, rfl, ho4, hb4⟩; have HO4 := Lib.hid ho4; have HB5 := Lib.hid hb4; clear ho4 hb4)
          | fail)
        go_ret2
        exact ⟨V, 0, A4, c4, HP.out, rfl, HO4.out.weak (Nat.le_trans HBW.out.size HB4.out.size), stp (stp HBW.out HB4.out) HB5.out⟩
      | false =>
        rw [hmv, if_neg (by decide)] at hpu
        have HP := Lib.hid hpu
        have HCK := Lib.hid (checkv Ao L.length co V wr HOUT.out hVL (by omega) (fun _ => hsmV) 8 (by unfold checkV; rw [hmv]; rfl))
        clear hst hmap h1 h2 hV hVL hsmV hle hpu hmv
        go_wp2_with (first
          | (go_at_call 20; (with_reducible refine (HCK.out).mono ?_); rintro e3 w3 ⟨rfl, hb3⟩; have HB4 := Lib.hid hb3; clear hb3)
          | fail)
        go_ret2
        exact PutsTo.bad HP.out (stp HBW.out HB4.out)
end Hx
end Go.Proofs.YtbjgfaflikgobaaGreatDoor
namespace Go.Proofs.YtbjgfaflikgobaaGreatDoor
open Go.RowKit
namespace Hx
open Lx Tr Tx Nmb Es
set_option linter.unusedVariables false
/-- So many nodes the first parts have. -/
def lenP (ls : List (List Nd)) (k : Nat) : Nat := (ls.take k).flatten.length
end Hx
end Go.Proofs.YtbjgfaflikgobaaGreatDoor
namespace Go.Proofs.YtbjgfaflikgobaaGreatDoor
open Go.RowKit
namespace Hx
open Lx Tr Tx Nmb Es
set_option linter.unusedVariables false
theorem put10 (n : Nd) (x y z : ByteArray) (A : Option Addr) (c : Nat) (A2 : Option Addr) (m c2 : Nat) (ls : List (List Nd)) (w : World) (h : NdAt n x y z A c w) (hs : SmallN n) (hr : RdB (SlS NdS) w A2 ls) (hm : ls.length = m) (hmax : m ≤ 100000) (hsm : ∀ v ∈ ls, v.length ≤ 100000 ∧ ∀ b ∈ v, SmallN b) :
    Calls Tryz.prog 25 #[NdV n x y z A c, .slice A2 m c2] w (PutsTo n ls w) := by
  cases hv : mayV [withM n 0] with
  | false => exact put_no0 n x y z A c A2 m c2 ls w h hs hr hm hmax hsm hv
  | true =>
    cases hp : ls.all partOk with
    | false => exact put_no1 n x y z A c A2 m c2 ls w h hs hr hm hmax hsm hv hp
    | true => exact put_go n x y z A c A2 m c2 ls w h hs hr hm hmax hsm hv hp
theorem PutsTo.with {n : Nd} {ls : List (List Nd)} {w w' : World} {e : Ending} {out : List Nd} {er : Int} {p : Nat} (h : PutsTo n ls w e w') (hp : putN n ls = (out, er)) (hl : out.length = p) : ∃ A c, e = .returned (.tuple #[.slice A p c, .int .i64 er]) ∧ NdOut w.heap.size w out A c w' ∧ Below w.heap.size w w' := by
  obtain ⟨o, r, A, c, h1, h2, h3, h4⟩ := h
  rw [hp] at h1
  obtain ⟨rfl, rfl⟩ := (Prod.mk.injEq _ _ _ _).mp h1
  exact ⟨A, c, by rw [← hl]; exact h2, h3, h4⟩
end Hx
end Go.Proofs.YtbjgfaflikgobaaGreatDoor
namespace Go.Proofs.YtbjgfaflikgobaaGreatDoor
open Go.RowKit
namespace Hx
open Lx Tr Tx Nmb Es
set_option linter.unusedVariables false
/-- The parts so far: an own row of slices that read as these. -/
def PsSt (w0 : World) (L : List LB) (v : Value) (wr : World) : Prop :=
  wr.ownsRow w0.heap.size 24 1 v L.length (L.flatMap lbCells) ∧ (∀ b ∈ L, RdS NdS wr (fun k => k < wr.heap.size ∧ some k ≠ v.ownBlock) b.A b.l ∧ b.l.length ≤ b.c ∧ b.c ≤ maxLen ∧ (b.A = none → b.c = 0)) ∧ Below w0.heap.size w0 wr
theorem PsSt.below {w wr w' : World} {L : List LB} {v : Value} (h : PsSt w L v wr) (hb : Below wr.heap.size wr w') : PsSt w L v w' :=
  ⟨own_belowK h.1 hb (Nat.le_refl _), fun b hm => ⟨(h.2.1 b hm).1.keep (fun k hk => ⟨Nat.lt_of_lt_of_le hk.1 hb.size, hk.2⟩) fun b o hk => hb.cell (p := ⟨b, o, none⟩) hk.1, (h.2.1 b hm).2⟩, stp h.2.2 hb⟩
theorem PsSt.more {w wr w2 w5 : World} {L : List LB} {b0 : LB} {v v5 : Value} (h : PsSt w L v wr) (hb : Below wr.heap.size wr w2) (hM : RdS NdS w2 (fun k => k < w2.heap.size ∧ some k ≠ v.ownBlock) b0.A b0.l ∧ b0.l.length ≤ b0.c ∧ b0.c ≤ maxLen ∧ (b0.A = none → b0.c = 0))
    (hown : w5.ownsRow w.heap.size 24 1 v5 (L.length + 1) (L.flatMap lbCells ++ [.slice b0.A b0.l.length b0.c])) (hgr : w2.grownBy w5 v.ownBlock) (hlie : v5.ownBlock = v.ownBlock ∨ v5.ownBlock = some w2.heap.size) : PsSt w (L ++ [b0]) v5 w5 := by
  have h2 := h.below hb
  refine ⟨by rw [List.length_append, List.flatMap_append]; simpa [lbCells] using hown, fun b hm => ?_, h2.2.2.grown hgr ?_ fun k hk => (h.1.lt k hk).1⟩
  · have hb0 : RdS NdS w2 (fun k => k < w2.heap.size ∧ some k ≠ v.ownBlock) b.A b.l ∧ b.l.length ≤ b.c ∧ b.c ≤ maxLen ∧ (b.A = none → b.c = 0) := by
      rcases List.mem_append.1 hm with hm | hm
      · exact h2.2.1 b hm
      · rw [List.mem_singleton] at hm; subst hm; exact hM
    refine ⟨hb0.1.keep (fun k hk => ⟨Nat.lt_of_lt_of_le hk.1 hgr.size, ?_⟩) fun k o hk => hgr.cell_far ⟨k, o, none⟩ hk.1 hk.2, hb0.2⟩
    rcases hlie with e | e
    · rw [e]; exact hk.2
    · rw [e]
      intro e2
      injection e2 with e2
      have := hk.1
      omega
  · have := h2.2.2.size
    omega
theorem PsSt.read {w wr : World} {L : List LB} {A : Option Addr} {n c : Nat} (h : PsSt w L (.slice A n c) wr) : RdB (SlS NdS) wr A (L.map LB.l) ∧ L.length = n := by
  have hn : n = L.length := by
    have h1 := h.1
    rcases h1.2 with ⟨e, h0⟩ | ⟨g, cap, cur, hv, _⟩
    · injection e with _ e _; omega
    · injection hv with _ e _
  subst hn
  obtain ⟨r1, _⟩ := RdS.of_own (C := SlS NdS) (S := fun b => b < wr.heap.size) lbCells LB.l (fun _ => rfl) (by decide) L (fun b hm => ⟨b.A, b.c, rfl, (h.2.1 b hm).2.1, (h.2.1 b hm).2.2.1, (h.2.1 b hm).2.2.2, (h.2.1 b hm).1.mono fun k hk => hk.1⟩) (fun g hg => (h.1.lt g hg).2) h.1
  exact ⟨r1, rfl⟩
theorem askedR_0 {v : List Nd} (h : mayV v = true) {i : Nat} (hi : i < v.length) : askedR v i = 0 := by unfold askedR; rw [if_pos h, if_neg (by omega)]
theorem one_rowS {w5 : World} {S : Nat → Prop} {n : Nd} {x y z : ByteArray} {A : Option Addr} {c na : Nat} {kd mm : Int} (hkd : (n.kind : Int) = kd) (hna : n.attrs.length = na) (hmm : n.many = mm) (h : NdIn n x y z A c (w5.alloc (.cells #[.int .u8 kd, .string x, .string y, .slice A na c, .string z, .int .i64 mm] 36)) S) (hS : S w5.heap.size) :
    RdS NdS (w5.alloc (.cells #[.int .u8 kd, .string x, .string y, .slice A na c, .string z, .int .i64 mm] 36)) S (some ⟨w5.heap.size, 0, none⟩) [n] := by
  subst hkd hna hmm
  intro _
  refine ⟨w5.heap.size, 0, rfl, hS, fun j hj => ?_⟩
  have hj0 : j = 0 := by simp at hj; omega
  subst hj0
  refine ⟨ndCells n x y z A c, ⟨x, y, z, A, c, rfl, h⟩, fun i hi => ?_⟩
  have e := cellV _ w5.heap.size i _ _ _ (heap_alloc_new w5 (.cells #[.int .u8 (n.kind : Int), .string x, .string y, .slice A n.attrs.length c, .string z, .int .i64 n.many] 36))
  rw [show 0 + 0 * NdS.k + i = i by simp, e]
  have hi6 : i < 6 := hi
  match i, hi6 with
  | 0, _ => rfl
  | 1, _ => rfl
  | 2, _ => rfl
  | 3, _ => rfl
  | 4, _ => rfl
  | 5, _ => rfl
set_option maxHeartbeats 16000000 in
set_option maxRecDepth 100000 in
theorem whole10 (A : Option Addr) (n c : Nat) (v : List Nd) (w : World) (hr : RdB NdS w A v) (hn : v.length = n) (hnc : n ≤ c) (hmax : n ≤ 9223372036854775807) (hE : Ev9 w := by first | assumption | exact Ev9.to (by assumption) (by assumption)) :
    Calls Tryz.prog 5 #[.slice A n c] w fun e w' => e = .returned (.bool true) ∧ Below w.heap.size w w' := by
  obtain ⟨i0, hi, hz0, hz1, hz2⟩ := info_parts infoSl
  have HI := Lib.hid hi
  have HZ0 := Lib.hid hz0
  have HZ1 := Lib.hid hz1
  have HZ2 := Lib.hid hz2
  have HR := Lib.hid hr
  have HN := Lib.hid hn
  have HG : Hid (∀ W, Below w.heap.size w W → Calls Tryz.prog 21 #[.slice A n c, .int .i64 100, .int .i64 3000] W (GreatTo v 100 3000 W)) := Lib.hid fun W hW => rgreat10 A n c v 100 3000 W (hr.on hW) hn (by decide) (by decide) hmax
  clear hr hn hmax hi hz0 hz1 hz2
  go_enter Tryz.func5, Tryz.ntmps5
  go_upto_region 4 with (first
    | (go_at_call 19; (with_reducible refine (alive10 w hE).mono ?_); rintro e1 w1 ⟨rfl, hb1⟩; have HB1 := Lib.hid hb1; clear hb1)
    | (go_at_call 21; (with_reducible refine (HG.out _ HB1.out).mono ?_); rintro e2 w2 ⟨qa, rfl, hb2, hqa⟩; have HB2 := Lib.hid (stp HB1.out hb2); have HQA := Lib.hid hqa; clear hb2 hqa)
    | fail)
  · go_ret
    exact ⟨rfl, HB2.out⟩
  · obtain rfl : qa = false := by
      cases qa
      · rfl
      · first | exact absurd rfl (by assumption) | assumption | simp_all
    have hsm : ∀ m ∈ v, SmallN m := fun m hm => ((HQA.out rfl).2 m hm).small (by decide)
    have hle : n ≤ 100 := by have := (HQA.out rfl).1; have := HN.out; omega
    cases hm : mayV v with
    | false =>
      have hq : askedR v 0 = 8 := by unfold askedR; rw [hm]; rfl
      have HK := Lib.hid (kids10 A n c v 0 w2 (HR.out.on HB2.out) HN.out (by omega) (fun _ => hsm) 8 hq [] (by unfold kidsR; rw [if_neg (by omega)]))
      have HC : Hid (∀ W, Below w.heap.size w W → Calls Tryz.prog 20 #[.slice A n c] W fun e w' => e = .returned (.int .i64 8) ∧ Below W.heap.size W w') := Lib.hid fun W hW => checkv A n c v W (HR.out.on hW) HN.out (by omega) (fun _ => hsm) 8 (by unfold checkV; rw [hm]; rfl)
      have l0 : ([] : List Nat).length = 0 := rfl
      rw [l0] at *
      clear hsm hm hq
      go_wp2_with (first
      | (go_at_call 14; (with_reducible refine (HK.out).mono ?_); rintro e3 w3 ⟨hb3, A3, c3, rfl, -, hr3⟩; have HR3 := Lib.hid hr3; have HB3 := Lib.hid (stp HB2.out hb3); clear hb3 hr3)
      | (go_at_call 20; (with_reducible refine (HC.out _ HB3.out).mono ?_); rintro e4 w4 ⟨rfl, hb4⟩; have HB4 := Lib.hid (stp HB3.out hb4); clear hb4)
      | fail)
      go_ret
      exact ⟨rfl, HB4.out⟩
    | true =>
      obtain ⟨ps, hps⟩ : ∃ ps, pieces v = ps := ⟨_, rfl⟩
      have hP := pieces_of hm
      rw [hps] at hP
      obtain ⟨m, hpm⟩ : ∃ m, ps.length = m := ⟨_, rfl⟩
      obtain ⟨ul, hul⟩ : ∃ ul, under v 0 = ul := ⟨_, rfl⟩
      have hull : ul.length = m := by rw [← hul, hP.len, hpm]
      have hpos : 0 < v.length := by obtain ⟨n0, l0, e, _⟩ := hP.head; rw [e]; simp
      have hq : askedR v 0 = 0 := @askedR_0 v hm 0 hpos
      have HK := Lib.hid ((kids10 A n c v 0 w2 (HR.out.on HB2.out) HN.out (by omega) (fun _ => hsm) 0 hq ul (by unfold kidsR; rw [if_pos hq]; exact hul)).mono (R' := fun e w' => Below w2.heap.size w2 w' ∧ ∃ A c, e = .returned (.tuple #[.slice A m c, .int .i64 0]) ∧ (A = none → c = 0) ∧ RdZ w' w'.heap.size A (zs ul)) fun e w' ⟨h1, A, c, h2, h3⟩ => ⟨h1, A, c, by rw [← hull]; exact h2, h3⟩)
      have HPC := Lib.hid hP
      have HMY := Lib.hid hm
      have HUL := Lib.hid hul
      have HSM := Lib.hid hsm
      have HPM := Lib.hid hpm
      have HPO := Lib.hid hpos
      have HLE := Lib.hid hle
      have hmle : m ≤ 100 := by
        obtain ⟨n0, l0, e, _, _, _, hfl⟩ := hP.head
        have : ∀ (ps : List (List Nd)), (∀ q ∈ ps, q ≠ []) → ps.length ≤ ps.flatten.length := fun ps => by
          induction ps with
          | nil => intro _; exact Nat.le_refl _
          | cons a ps ih =>
            intro h
            have := ih fun q hq => h q (List.mem_cons_of_mem _ hq)
            have h1 := List.length_pos_iff.2 (h a List.mem_cons_self)
            rw [List.flatten_cons, List.length_append, List.length_cons]
            omega
        have h9 := this ps fun q hq => (hP.each q hq).1
        have h8 := HN.out
        rw [hfl] at h9
        rw [e, List.length_cons] at h8
        omega
      have bm : (0 : Int) ≤ (m : Int) ∧ (m : Int) ≤ 100 := by omega
      clear hP hm hul hsm hpm hpos hq hull hps
      go_wp2_with (first
      | (go_at_call 14; (with_reducible refine (HK.out).mono ?_); rintro e3 w3 ⟨hb3, A3, c3, rfl, -, hr3⟩; have HR3 := Lib.hid hr3; have HB3 := Lib.hid (stp HB2.out hb3); clear hb3 hr3)
      | fail)
      go_loopg [6, 7, 8] m (fun gg x6 x7 i wr => ∃ L : List LB, L.length + gg = m ∧ i = .int .i64 L.length ∧ x7 = .int .i64 ((1 + (ps.take L.length).flatten.length : Nat) : Int) ∧ L.map LB.l = ps.take L.length ∧ PsSt w3 L x6 wr)
      case atStart => exact ⟨[], by simp, rfl, rfl, rfl, ⟨World.ownsRow_nil _ _ _ _, (fun b hb => by cases hb), Below.refl _ _⟩⟩
      case round =>
        obtain ⟨L, hk, rfl, rfl, hmap, hst⟩ := hrel
        have hb3 := hst.2.2
        obtain ⟨Ao, co, rfl⟩ := own_form2 hst.1
        have HST := Lib.hid hst
        have HMAP := Lib.hid hmap
        have HBW := Lib.hid (stp HB3.out hst.2.2)
        have HKG := Lib.hid hk
        obtain ⟨p, hp⟩ : ∃ p, 1 + (ps.take L.length).flatten.length = p := ⟨_, rfl⟩
        rw [hp]
        by_cases hlt : L.length < m
        · have hj : L.length < ps.length := by rw [HPM.out]; exact hlt
          obtain ⟨hp2, hd, hpart, htext, hkind, hpl⟩ := HPC.out.at hj hp.symm
          obtain ⟨pj, hpj⟩ : ∃ pj, ps[L.length]'hj = pj := ⟨_, rfl⟩
          rw [hpj] at hpart htext hpl hd
          obtain ⟨pn, hpn⟩ : ∃ pn, pj.length = pn := ⟨_, rfl⟩
          have HPL := Lib.hid hpn
          have hpne : pj ≠ [] := by rw [← hpj]; exact (HPC.out.each _ (List.getElem_mem hj)).1
          have hpn1 : 1 ≤ pn := by rw [← hpn]; exact List.length_pos_iff.2 hpne
          have hpl2 : p + pn ≤ n := by rw [← hpn]; have := HN.out; omega
          have hHN := HN.out
          have hNX : Hid ((L ++ [(⟨pj, none, 0⟩ : LB)]).map LB.l = ps.take (L.length + 1)) := Lib.hid (by rw [List.map_append, hmap, List.take_succ_eq_append_getElem hj, hpj]; rfl)
          have HAT : Hid (1 + (ps.take (L.length + 1)).flatten.length = p + pn) := Lib.hid (by rw [pflat_next hj, hpj, hpn]; omega)
          have hu : ul[L.length]? = some p := by rw [← HUL.out, HPC.out.plc _ hj, hp]
          obtain ⟨b5, off5, hA3, hb5l, hc5⟩ := (HR3.out.on hb3) (by rw [zs_length]; obtain ⟨h9, _⟩ := List.getElem?_eq_some_iff.1 hu; omega)
          have hul2 : L.length < ul.length := (List.getElem?_eq_some_iff.1 hu).1
          have u5 := hc5 L.length (by rw [zs_length]; exact hul2)
          have u6 : wr.cell? ⟨b5, off5 + L.length, none⟩ = some (.int .i64 p) := by
            rw [u5]
            simp [encZ, zs, (List.getElem?_eq_some_iff.1 hu).2]
          have HCZ : Hid (∀ W, Below wr.heap.size wr W → W.cell? ⟨b5, off5 + L.length, none⟩ = some (.int .i64 p)) := Lib.hid fun W hW => (hW.cell (p := ⟨b5, _, none⟩) hb5l).trans u6
          obtain ⟨b0, off, x, y, z, A1, c1, hA, hbB, hin, q0, q1, q2, q3, q4, q5⟩ := nd_at (HR.out.on HBW.out) hp2
          obtain ⟨nd, hnd⟩ : ∃ nd, v[p]'hp2 = nd := ⟨_, rfl⟩
          rw [hnd] at hin q0 q3 q5 hkind htext
          obtain ⟨na, hna⟩ : ∃ na, nd.attrs.length = na := ⟨_, rfl⟩
          obtain ⟨mm, hmm⟩ : ∃ mm, nd.many = mm := ⟨_, rfl⟩
          rw [hna] at q3
          rw [hmm] at q5
          have bp : (0 : Int) ≤ (p : Int) ∧ (p : Int) < (n : Int) := by omega
          have bp2 : (0 : Int) ≤ (p : Int) + (pn : Int) ∧ (p : Int) + (pn : Int) ≤ 100 := by have := HLE.out; omega
          have bp3 : ¬ (pn : Int) < 1 := by omega
          have bL : (0 : Int) ≤ (L.length : Int) ∧ (L.length : Int) < (m : Int) := by omega
          have HROW : Hid (∀ k, (Value.slice Ao L.length co).ownBlock = some k → k < wr.heap.size) := Lib.hid fun k hk => (hst.1.lt k hk).2
          rcases hkind with hk1 | hk2
          · rw [hk1, show ((1 : Nat) : Int) = 1 from rfl] at q0
            have hsub : subR v (p : Int) = (pj, 0) := by rw [← hpart]; exact sub_part hp2 (askedR_0 HMY.out hp2) (by rw [hnd]; exact hk1)
            have HSUB := Lib.hid ((sub10 A n c v p wr (HR.out.on HBW.out) HN.out hnc (by omega) (fun _ => HSM.out)).mono fun e w' h => h.with hsub hpn)
            have HCN : Hid (∀ W, Below wr.heap.size wr W → W.cell? ⟨b0, off + p * 6, none⟩ = some (.int .u8 1)) := Lib.hid fun W hW => (hW.cell (p := ⟨b0, _, none⟩) hbB).trans q0
            subst hA hA3
            clear hst hmap hb3 hj hd hpart htext hpl hpne hu hul2 u5 hc5 hin hnd hna hmm hk1 hsub hbB hb5l hpn hpj hp2 hp
            go_wp2_with (first
              | (go_at_call 16; (with_reducible refine (HSUB.out).mono ?_); rintro e5 w5 ⟨A5, c5, rfl, ho5, hb5⟩; have HO5 := Lib.hid ho5; have HB5 := Lib.hid hb5; have d0 := HCZ.out w5 hb5; have d1 := HCN.out w5 hb5; clear hb5 ho5)
              | (at_builtin; (refine wpList_append_own_at _ rfl (.tmp 92) (.tmp 94) 46 rfl w3.heap.size 24 i0 (.slice none 0 0) 1 24 Tryz.underlying46 HI.out HZ0.out HZ1.out HZ2.out rfl (by decide) _ L.length _ rfl (own_belowK HST.out.1 (stpA HB5.out _) (Nat.le_refl _)) ⟨w5.heap.size, 0, none⟩ 1 1 [.slice A5 pn c5] rfl rfl (new_at w5 [.slice A5 pn c5] 24 _ rfl) (by simp [Value.oneCell']) (by unfold maxLen; omega) (by omega) (by have h1 := HST.out.2.2.size; have h2 := HB5.out.size; exact Nat.le_trans h1 (Nat.le_trans h2 (stpA (Below.refl _ _) _).size)) ?_; intro v6 w6 hown6 hgr6 _ hlie; obtain ⟨A6, c6, rfl⟩ := own_form2 hown6; have HX6 := Lib.hid (PsSt.more (b0 := ⟨pj, A5, c5⟩) HST.out (stpA HB5.out (.cells #[.slice A5 pn c5] 24)) ⟨(HO5.out.below (stpA (Below.refl w5.heap.size w5) (.cells #[.slice A5 pn c5] 24))).rd.mono fun k hk => ⟨hk.2.1, fun e => by have := HROW.out k e.symm; have := hk.1; omega⟩, HO5.out.le, HO5.out.cm, HO5.out.nil⟩ (by rw [HPL.out]; exact hown6) hgr6 hlie); clear hown6 hgr6 hlie))
              | fail)
            go_roundg (gk - 1)
            case measure => have := HKG.out; omega
            case rel => exact ⟨L ++ [⟨pj, A5, c5⟩], by have := HKG.out; rw [List.length_append]; simp; omega, by rw [List.length_append]; go_num, by rw [List.length_append]; show _ = Value.int .i64 ((1 + (ps.take (L.length + 1)).flatten.length : Nat) : Int); rw [HAT.out]; go_num, by rw [List.length_append, List.map_append]; have h9 := hNX.out; rw [List.map_append] at h9; exact h9, HX6.out⟩
          · rw [hk2, show ((2 : Nat) : Int) = 2 from rfl] at q0
            have hsub : subR v (p : Int) = ([], 2) := sub_text hp2 (askedR_0 HMY.out hp2) (by rw [hnd]; exact hk2)
            have hpj1 := htext hk2
            obtain rfl : pn = 1 := by rw [← hpn, hpj1]; rfl
            have HSUB := Lib.hid ((sub10 A n c v p wr (HR.out.on HBW.out) HN.out hnc (by omega) (fun _ => HSM.out)).mono fun e w' h => h.with hsub (rfl : ([] : List Nd).length = 0))
            have HCN : Hid (∀ W, Below wr.heap.size wr W → W.cell? ⟨b0, off + p * 6, none⟩ = some (.int .u8 2) ∧ W.cell? ⟨b0, off + p * 6 + 1, none⟩ = some (.string x) ∧ W.cell? ⟨b0, off + p * 6 + 2, none⟩ = some (.string y) ∧ W.cell? ⟨b0, off + p * 6 + 3, none⟩ = some (.slice A1 na c1) ∧ W.cell? ⟨b0, off + p * 6 + 4, none⟩ = some (.string z) ∧ W.cell? ⟨b0, off + p * 6 + 5, none⟩ = some (.int .i64 mm)) := Lib.hid fun W hW => ⟨(hW.cell (p := ⟨b0, _, none⟩) hbB).trans q0, (hW.cell (p := ⟨b0, _, none⟩) hbB).trans q1, (hW.cell (p := ⟨b0, _, none⟩) hbB).trans q2, (hW.cell (p := ⟨b0, _, none⟩) hbB).trans q3, (hW.cell (p := ⟨b0, _, none⟩) hbB).trans q4, (hW.cell (p := ⟨b0, _, none⟩) hbB).trans q5⟩
            obtain ⟨b0', off', x', y', z', A1', c1', hA', hbB', hin', r0, r1, r2, r3, r4, r5⟩ := nd_at HR.out hp2
            rw [hnd] at hin' r3
            rw [hna] at r3
            rw [hA] at hA'
            injection hA' with hA'
            injection hA' with e1 e2 _
            subst e1 e2
            have s1 := (HBW.out.cell (p := ⟨b0, off + p * 6 + 1, none⟩) hbB').trans r1
            have s2 := (HBW.out.cell (p := ⟨b0, off + p * 6 + 2, none⟩) hbB').trans r2
            have s3 := (HBW.out.cell (p := ⟨b0, off + p * 6 + 3, none⟩) hbB').trans r3
            have s4 := (HBW.out.cell (p := ⟨b0, off + p * 6 + 4, none⟩) hbB').trans r4
            obtain rfl : x = x' := by rw [s1] at q1; simpa using q1.symm
            obtain rfl : y = y' := by rw [s2] at q2; simpa using q2.symm
            obtain ⟨rfl, rfl⟩ : A1 = A1' ∧ c1 = c1' := by rw [s3] at q3; simpa using q3.symm
            obtain rfl : z = z' := by rw [s4] at q4; simpa using q4.symm
            have HLO : Hid (∀ k, (Value.slice Ao L.length co).ownBlock = some k → w3.heap.size ≤ k) := Lib.hid fun k hk => (hst.1.lt k hk).1
            have HONE : Hid (∀ W, Below wr.heap.size wr W → RdS NdS (W.alloc (.cells #[.int .u8 2, .string x, .string y, .slice A1 na c1, .string z, .int .i64 mm] 36)) (fun k => k < (W.alloc (.cells #[.int .u8 2, .string x, .string y, .slice A1 na c1, .string z, .int .i64 mm] 36)).heap.size ∧ some k ≠ (Value.slice Ao L.length co).ownBlock) (some ⟨W.heap.size, 0, none⟩) [nd]) := Lib.hid fun W hW => one_rowS (by rw [hk2]; rfl) hna hmm (hin'.keep (fun k hk => ⟨by have := HBW.out.size; have := hW.size; rw [World.size_alloc]; omega, fun e => by have := HLO.out k e.symm; have := HB3.out.size; omega⟩) fun k o hk => (stpA (stp HBW.out hW) _).cell (p := ⟨k, o, none⟩) hk) ⟨by rw [World.size_alloc]; exact Nat.lt_succ_self _, fun e => by have := HROW.out _ e.symm; have := hW.size; omega⟩
            have HPJ := Lib.hid hpj1
            subst hA hA3
            clear hst hmap hb3 hj hd hpart htext hpl hpne hu hul2 u5 hc5 hin hnd hna hmm hk2 hsub hbB hb5l hpn hpj hp2 hp hin' r0 r1 r2 r3 r4 r5 s1 s2 s3 s4 hbB' hpj1
            go_wp2_with (first
              | (go_at_call 16; (with_reducible refine (HSUB.out).mono ?_); rintro e5 w5 ⟨A5, c5, rfl, -, hb5⟩; have d0 := HCZ.out w5 hb5; obtain ⟨g0, g1, g2, g3, g4, g5⟩ := HCN.out w5 hb5; have HB8 : Hid (Below wr.heap.size wr (w5.alloc (.cells #[.int .u8 2, .string x, .string y, .slice A1 na c1, .string z, .int .i64 mm] 36))) := Lib.hid (stpA hb5 _); have HON := Lib.hid (HONE.out w5 hb5); clear hb5)
              | (at_builtin; (refine wpList_append_own_at _ rfl (.tmp 92) (.tmp 94) 46 rfl w3.heap.size 24 i0 (.slice none 0 0) 1 24 Tryz.underlying46 HI.out HZ0.out HZ1.out HZ2.out rfl (by decide) _ L.length _ rfl (own_belowK HST.out.1 (stpA HB8.out _) (Nat.le_refl _)) ⟨w5.heap.size + 1, 0, none⟩ 1 1 [.slice (some ⟨w5.heap.size, 0, none⟩) 1 1] rfl rfl (new_at (w5.alloc (.cells #[.int .u8 2, .string x, .string y, .slice A1 na c1, .string z, .int .i64 mm] 36)) [.slice (some ⟨w5.heap.size, 0, none⟩) 1 1] 24 _ (World.size_alloc ..)) (by simp [Value.oneCell']) (by unfold maxLen; omega) (by omega) (by have h1 := HST.out.2.2.size; have h2 := HB8.out.size; exact Nat.le_trans h1 (Nat.le_trans h2 (stpA (Below.refl _ _) _).size)) ?_; intro v6 w6 hown6 hgr6 _ hlie; obtain ⟨A6, c6, rfl⟩ := own_form2 hown6; have HX6 := Lib.hid (PsSt.more (b0 := ⟨pj, (some ⟨w5.heap.size, 0, none⟩), 1⟩) HST.out (stpA HB8.out (.cells #[.slice (some ⟨w5.heap.size, 0, none⟩) 1 1] 24)) (by have h9 := HON.out; rw [← HPJ.out] at h9; exact ⟨h9.keep (fun k hk => ⟨Nat.lt_of_lt_of_le hk.1 (stpA (Below.refl _ _) _).size, hk.2⟩) fun k o hk => (stpA (Below.refl _ _) _).cell (p := ⟨k, o, none⟩) hk.1, by rw [HPL.out]; exact Nat.le_refl _, (by decide : 1 ≤ maxLen), fun h => (by cases h)⟩) (by rw [HPL.out]; exact hown6) hgr6 hlie); clear hown6 hgr6 hlie))
              | fail)
            go_roundg (gk - 1)
            case measure => have := HKG.out; omega
            case rel => exact ⟨L ++ [⟨pj, (some ⟨w5.heap.size, 0, none⟩), 1⟩], by have := HKG.out; rw [List.length_append]; simp; omega, by rw [List.length_append]; go_num, by rw [List.length_append]; show _ = Value.int .i64 ((1 + (ps.take (L.length + 1)).flatten.length : Nat) : Int); rw [HAT.out]; go_num, by rw [List.length_append, List.map_append]; have h9 := hNX.out; rw [List.map_append] at h9; exact h9, HX6.out⟩
        · have hLm : L.length = m := by omega
          have hnm : ¬ ((L.length : Int) < (m : Int)) := by omega
          obtain ⟨r1, r2⟩ := hst.read
          have hlp : L.map LB.l = ps := by rw [hmap, hLm, ← HPM.out, List.take_length]
          rw [hlp] at r1
          obtain ⟨b0, off, x, y, z, A1, c1, hA, hbB, hin, q0, q1, q2, q3, q4, q5⟩ := nd_at (HR.out.on HBW.out) HPO.out
          obtain ⟨nd, hnd⟩ : ∃ nd, v[0]'HPO.out = nd := ⟨_, rfl⟩
          have hv0 : v[0]? = some nd := by rw [List.getElem?_eq_getElem HPO.out, hnd]
          have hput := HPC.out.put HMY.out hv0
          obtain ⟨n0, l0, hv, _, hk1, hmany, hfl⟩ := HPC.out.head
          have hn0 : n0 = nd := by rw [hv] at hv0; exact Option.some.inj hv0
          subst hn0
          have hpn : p = n := by rw [← hp, hLm, ← HPM.out, List.take_length, hfl, ← HN.out, hv, List.length_cons]; omega
          subst hpn
          rw [hnd] at hin q0 q3 q5
          rw [hmany, HPM.out] at q5
          rw [hk1, show ((1 : Nat) : Int) = 1 from rfl] at q0
          obtain ⟨na, hna⟩ : ∃ na, n0.attrs.length = na := ⟨_, rfl⟩
          rw [hna] at q3
          simp only [Nat.zero_mul, Nat.add_zero] at q0 q1 q2 q3 q4 q5
          have hsn : SmallN n0 := HSM.out _ (by rw [hv]; exact List.mem_cons_self)
          have hpsm : ∀ u ∈ ps, u.length ≤ 100000 ∧ ∀ b ∈ u, SmallN b := fun u hu => by
            have hsub : ∀ b ∈ u, b ∈ v := fun b hb => by rw [hv, ← hfl]; exact List.mem_cons_of_mem _ (List.mem_flatten.2 ⟨u, hu, hb⟩)
            refine ⟨?_, fun b hb => HSM.out _ (hsub b hb)⟩
            obtain ⟨j, hj, rfl⟩ := List.getElem_of_mem hu
            have h9 := pflat_split hj
            have h8 := congrArg List.length h9
            rw [List.length_append, List.length_append, hfl] at h8
            have h7 := HN.out
            rw [hv, List.length_cons] at h7
            have := HLE.out
            omega
          have HPUT := Lib.hid ((put10 n0 x y z A1 c1 Ao L.length co ps wr hin hsn r1 (by rw [HPM.out, hLm]) (by omega) hpsm).mono fun e w' h => h.with hput HN.out)
          unfold NdV at HPUT
          rw [hna, hk1, hmany, HPM.out, show ((1 : Nat) : Int) = 1 from rfl] at HPUT
          have HCN : Hid (∀ W, Below wr.heap.size wr W → W.cell? ⟨b0, off + 5, none⟩ = some (.int .i64 (m : Int))) := Lib.hid fun W hW => (hW.cell (p := ⟨b0, _, none⟩) hbB).trans q5
          have HSAM : Hid (∀ B d W, Below wr.heap.size wr W → RdB NdS W B v → Calls Tryz.prog 24 #[.slice B p d, .slice A p c] W fun e w' => e = .returned (.bool true) ∧ Below W.heap.size W w') := Lib.hid fun B d W hW h1 => same10 B A p d p c v v W h1 HN.out (HR.out.on (stp HBW.out hW)) HN.out (by have := HLE.out; omega) (by have := HLE.out; omega) (fun t ht => (HSM.out t ht).attrs) (fun t ht => (HSM.out t ht).attrs) true (decide_eq_true rfl)
          have bp : (0 : Int) < (p : Int) := by have := HPO.out; have := HN.out; omega
          have hpp : 0 < p := by omega
          subst hA
          clear hst hmap hb3 r1 r2 hlp hin hnd hv0 hput hmany hfl hk1 hna hsn hpsm hbB hp hv
          subst hLm
          go_wp2_with (first
            | (go_at_call 25; (with_reducible refine (HPUT.out).mono ?_); rintro e8 w8 ⟨A8, c8, rfl, ho8, hb8⟩; have HO8 := Lib.hid ho8; have HB8 := Lib.hid hb8; have d8 := HCN.out w8 hb8; clear ho8 hb8)
            | (go_at_call 24; (with_reducible refine (HSAM.out _ _ _ HB8.out HO8.out.all).mono ?_); rintro e9 w9 ⟨rfl, hb9⟩; have HB9 := Lib.hid (stp HBW.out (stp HB8.out hb9)); clear hb9)
            | fail)
          go_ret
          exact ⟨rfl, HB9.out⟩
end Hx
end Go.Proofs.YtbjgfaflikgobaaGreatDoor
