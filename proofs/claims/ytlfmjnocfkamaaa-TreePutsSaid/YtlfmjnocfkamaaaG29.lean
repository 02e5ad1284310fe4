/-
  Texts of one seat, put together: TreV.
-/
import Derived.Test.YtlfmjnocfkamaaaG23
import Derived.Test.YtlfmjnocfkamaaaG28
namespace Go.Proofs.Ytlfmjnocfkamaaa
open Go.RowKit
namespace Hx
open Lx Tr Tx Nmb Es
set_option linter.unusedVariables false
set_option maxHeartbeats 16000000 in
set_option maxRecDepth 100000 in
theorem put_no0 (n : Nd) (x y z : ByteArray) (A : Option Addr) (c : Nat) (A2 : Option Addr) (m c2 : Nat) (ls : List (List Nd)) (w : World) (h : NdAt n x y z A c w) (hs : SmallN n) (hr : RdB (SlS NdS) w A2 ls) (hm : ls.length = m) (hmax : m ≤ 100000) (hsm : ∀ v ∈ ls, v.length ≤ 100000 ∧ ∀ b ∈ v, SmallN b) (hv : mayV [withM n 0] = false) :
    Calls Try.prog 23 #[NdV n x y z A c, .slice A2 m c2] w (PutsTo n ls w) := by
  have hb0 : Below w.heap.size w (w.alloc (.cells #[.int .u8 (n.kind : Int), .string x, .string y, .slice A n.attrs.length c, .string z, .int .i64 0] 53)) := stpA (Below.refl _ _) _
  have hn0 : NdIn (withM n 0) x y z A c (w.alloc (.cells #[.int .u8 (n.kind : Int), .string x, .string y, .slice A n.attrs.length c, .string z, .int .i64 0] 53)) (fun k => k < (w.alloc (.cells #[.int .u8 (n.kind : Int), .string x, .string y, .slice A n.attrs.length c, .string z, .int .i64 0] 53)).heap.size) := NdAt.on (NdIn.many h 0 (by decide) (by decide)) hb0
  have hrow : RdB NdS ((w.alloc (.cells #[.int .u8 (n.kind : Int), .string x, .string y, .slice A n.attrs.length c, .string z, .int .i64 0] 53)).alloc (.cells #[.int .u8 (n.kind : Int), .string x, .string y, .slice A n.attrs.length c, .string z, .int .i64 0] 53)) (some ⟨(w.alloc (.cells #[.int .u8 (n.kind : Int), .string x, .string y, .slice A n.attrs.length c, .string z, .int .i64 0] 53)).heap.size, 0, none⟩) [withM n 0] := one_row hn0
  rw [World.size_alloc] at hrow
  have hck := fun q hq => checkv _ 1 1 [withM n 0] _ hrow rfl (by decide) (fun _ b hb => by rw [List.mem_singleton] at hb; rw [hb]; exact hs.many 0) q hq
  have HB2 : Hid (Below w.heap.size w ((w.alloc (.cells #[.int .u8 (n.kind : Int), .string x, .string y, .slice A n.attrs.length c, .string z, .int .i64 0] 53)).alloc (.cells #[.int .u8 (n.kind : Int), .string x, .string y, .slice A n.attrs.length c, .string z, .int .i64 0] 53))) := Lib.hid (stpA hb0 _)
  have HX2 : Hid (((w.alloc (.cells #[.int .u8 (n.kind : Int), .string x, .string y, .slice A n.attrs.length c, .string z, .int .i64 0] 53)).alloc (.cells #[.int .u8 (n.kind : Int), .string x, .string y, .slice A n.attrs.length c, .string z, .int .i64 0] 53)).heap[w.heap.size]? = some (.cells #[.int .u8 (n.kind : Int), .string x, .string y, .slice A n.attrs.length c, .string z, .int .i64 0] 53 (0, 0))) := Lib.hid (kept_heap (heap_alloc_new w _) (stpA (Below.refl _ _) _))
  unfold NdV
  have HC := Lib.hid (hck 8 (by unfold checkV; rw [hv]; rfl))
  have HP : Hid (putN n ls = ([], 8)) := Lib.hid (by unfold putN; rw [hv]; rfl)
  clear h hs hr hm hmax hsm hb0 hn0 hrow hck hv
  go_enter Try.func23, Try.ntmps23
  go_wp2_with (first
    | (go_at_call 19; (with_reducible refine (HC.out).mono ?_); rintro e1 w1 ⟨rfl, hb1⟩)
    | fail)
  go_ret2
  exact PutsTo.bad HP.out (stp HB2.out hb1)
set_option maxHeartbeats 16000000 in
set_option maxRecDepth 100000 in
theorem put_no1 (n : Nd) (x y z : ByteArray) (A : Option Addr) (c : Nat) (A2 : Option Addr) (m c2 : Nat) (ls : List (List Nd)) (w : World) (h : NdAt n x y z A c w) (hs : SmallN n) (hr : RdB (SlS NdS) w A2 ls) (hm : ls.length = m) (hmax : m ≤ 100000) (hsm : ∀ v ∈ ls, v.length ≤ 100000 ∧ ∀ b ∈ v, SmallN b) (hv : mayV [withM n 0] = true) (hp : ls.all partOk = false) :
    Calls Try.prog 23 #[NdV n x y z A c, .slice A2 m c2] w (PutsTo n ls w) := by
  have hb0 : Below w.heap.size w (w.alloc (.cells #[.int .u8 (n.kind : Int), .string x, .string y, .slice A n.attrs.length c, .string z, .int .i64 0] 53)) := stpA (Below.refl _ _) _
  have hn0 : NdIn (withM n 0) x y z A c (w.alloc (.cells #[.int .u8 (n.kind : Int), .string x, .string y, .slice A n.attrs.length c, .string z, .int .i64 0] 53)) (fun k => k < (w.alloc (.cells #[.int .u8 (n.kind : Int), .string x, .string y, .slice A n.attrs.length c, .string z, .int .i64 0] 53)).heap.size) := NdAt.on (NdIn.many h 0 (by decide) (by decide)) hb0
  have hrow : RdB NdS ((w.alloc (.cells #[.int .u8 (n.kind : Int), .string x, .string y, .slice A n.attrs.length c, .string z, .int .i64 0] 53)).alloc (.cells #[.int .u8 (n.kind : Int), .string x, .string y, .slice A n.attrs.length c, .string z, .int .i64 0] 53)) (some ⟨(w.alloc (.cells #[.int .u8 (n.kind : Int), .string x, .string y, .slice A n.attrs.length c, .string z, .int .i64 0] 53)).heap.size, 0, none⟩) [withM n 0] := one_row hn0
  rw [World.size_alloc] at hrow
  have hck := fun q hq => checkv _ 1 1 [withM n 0] _ hrow rfl (by decide) (fun _ b hb => by rw [List.mem_singleton] at hb; rw [hb]; exact hs.many 0) q hq
  have HB2 : Hid (Below w.heap.size w ((w.alloc (.cells #[.int .u8 (n.kind : Int), .string x, .string y, .slice A n.attrs.length c, .string z, .int .i64 0] 53)).alloc (.cells #[.int .u8 (n.kind : Int), .string x, .string y, .slice A n.attrs.length c, .string z, .int .i64 0] 53))) := Lib.hid (stpA hb0 _)
  have HX2 : Hid (((w.alloc (.cells #[.int .u8 (n.kind : Int), .string x, .string y, .slice A n.attrs.length c, .string z, .int .i64 0] 53)).alloc (.cells #[.int .u8 (n.kind : Int), .string x, .string y, .slice A n.attrs.length c, .string z, .int .i64 0] 53)).heap[w.heap.size]? = some (.cells #[.int .u8 (n.kind : Int), .string x, .string y, .slice A n.attrs.length c, .string z, .int .i64 0] 53 (0, 0))) := Lib.hid (kept_heap (heap_alloc_new w _) (stpA (Below.refl _ _) _))
  unfold NdV
  have HC := Lib.hid (hck 0 (by unfold checkV; rw [hv]; rfl))
  have HE : Hid (∀ W, Below w.heap.size w W → Calls Try.prog 49 #[.slice A2 m c2, .func (.func 50) #[] #[]] W fun e w' => e = .returned (.int .i64 8) ∧ Below W.heap.size W w') := Lib.hid fun W hW => each_parts A2 m c2 ls W (hr.on hW) hm hmax hsm 8 (by unfold partsE; rw [hp]; rfl)
  have HP : Hid (putN n ls = ([], 8)) := Lib.hid (by unfold putN; rw [hv, hp]; rfl)
  clear h hs hr hm hmax hsm hb0 hn0 hrow hck hv hp
  go_enter Try.func23, Try.ntmps23
  go_wp2_with (first
    | (go_at_call 19; (with_reducible refine (HC.out).mono ?_); rintro e1 w1 ⟨rfl, hb1⟩; have HB1 := Lib.hid hb1; clear hb1)
    | (go_at_call 49; (with_reducible refine (HE.out _ (stp HB2.out HB1.out)).mono ?_); rintro e2 w2 ⟨rfl, hb2⟩)
    | fail)
  go_ret2
  exact PutsTo.bad HP.out (stp (stp HB2.out HB1.out) hb2)
set_option maxHeartbeats 16000000 in
set_option maxRecDepth 100000 in
theorem put_go (n : Nd) (x y z : ByteArray) (A : Option Addr) (c : Nat) (A2 : Option Addr) (m c2 : Nat) (ls : List (List Nd)) (w : World) (h : NdAt n x y z A c w) (hs : SmallN n) (hr : RdB (SlS NdS) w A2 ls) (hm : ls.length = m) (hmax : m ≤ 100000) (hsm : ∀ v ∈ ls, v.length ≤ 100000 ∧ ∀ b ∈ v, SmallN b) (hv : mayV [withM n 0] = true) (hp : ls.all partOk = true) :
    Calls Try.prog 23 #[NdV n x y z A c, .slice A2 m c2] w (PutsTo n ls w) := by
  obtain ⟨i0, hi, hz0, hz1, hz2⟩ := info_parts infoNd
  have HI := Lib.hid hi
  have HZ0 := Lib.hid hz0
  have HZ1 := Lib.hid hz1
  have HZ2 := Lib.hid hz2
  clear hi hz0 hz1 hz2
  have hb0 : Below w.heap.size w (w.alloc (.cells #[.int .u8 (n.kind : Int), .string x, .string y, .slice A n.attrs.length c, .string z, .int .i64 0] 53)) := stpA (Below.refl _ _) _
  have hn0 : NdIn (withM n 0) x y z A c (w.alloc (.cells #[.int .u8 (n.kind : Int), .string x, .string y, .slice A n.attrs.length c, .string z, .int .i64 0] 53)) (fun k => k < (w.alloc (.cells #[.int .u8 (n.kind : Int), .string x, .string y, .slice A n.attrs.length c, .string z, .int .i64 0] 53)).heap.size) := NdAt.on (NdIn.many h 0 (by decide) (by decide)) hb0
  have hrow : RdB NdS ((w.alloc (.cells #[.int .u8 (n.kind : Int), .string x, .string y, .slice A n.attrs.length c, .string z, .int .i64 0] 53)).alloc (.cells #[.int .u8 (n.kind : Int), .string x, .string y, .slice A n.attrs.length c, .string z, .int .i64 0] 53)) (some ⟨(w.alloc (.cells #[.int .u8 (n.kind : Int), .string x, .string y, .slice A n.attrs.length c, .string z, .int .i64 0] 53)).heap.size, 0, none⟩) [withM n 0] := one_row hn0
  rw [World.size_alloc] at hrow
  have hck := fun q hq => checkv _ 1 1 [withM n 0] _ hrow rfl (by decide) (fun _ b hb => by rw [List.mem_singleton] at hb; rw [hb]; exact hs.many 0) q hq
  have HB2 : Hid (Below w.heap.size w ((w.alloc (.cells #[.int .u8 (n.kind : Int), .string x, .string y, .slice A n.attrs.length c, .string z, .int .i64 0] 53)).alloc (.cells #[.int .u8 (n.kind : Int), .string x, .string y, .slice A n.attrs.length c, .string z, .int .i64 0] 53))) := Lib.hid (stpA hb0 _)
  have HX2 : Hid (((w.alloc (.cells #[.int .u8 (n.kind : Int), .string x, .string y, .slice A n.attrs.length c, .string z, .int .i64 0] 53)).alloc (.cells #[.int .u8 (n.kind : Int), .string x, .string y, .slice A n.attrs.length c, .string z, .int .i64 0] 53)).heap[w.heap.size]? = some (.cells #[.int .u8 (n.kind : Int), .string x, .string y, .slice A n.attrs.length c, .string z, .int .i64 0] 53 (0, 0))) := Lib.hid (kept_heap (heap_alloc_new w _) (stpA (Below.refl _ _) _))
  unfold NdV
  have HC := Lib.hid (hck 0 (by unfold checkV; rw [hv]; rfl))
  have HE : Hid (∀ W, Below w.heap.size w W → Calls Try.prog 49 #[.slice A2 m c2, .func (.func 50) #[] #[]] W fun e w' => e = .returned (.int .i64 0) ∧ Below W.heap.size W w') := Lib.hid fun W hW => each_parts A2 m c2 ls W (hr.on hW) hm hmax hsm 0 (by unfold partsE; rw [hp]; rfl)
  have HPU : Hid (putN n ls = (if 512 < 1 + ls.flatten.length then ([], 4) else if mayV (withM n ls.length :: ls.flatten) = true then (withM n ls.length :: ls.flatten, 0) else ([], 8))) := Lib.hid (by unfold putN; rw [if_pos hv, if_pos hp])
  have HR := Lib.hid hr
  have HM := Lib.hid hm
  have HMX := Lib.hid hmax
  have HSM := Lib.hid hsm
  have HALLP := Lib.hid hp
  have HN := Lib.hid (NdIn.many h (m : Int) (by omega) (by omega))
  have HSN := Lib.hid (hs.many (m : Int))
  have bm : (0 : Int) ≤ (m : Int) ∧ (m : Int) ≤ 100000 := by omega
  clear h hs hr hm hmax hsm hb0 hn0 hrow hck hv hp
  go_enter Try.func23, Try.ntmps23
  go_wp2_with (first
    | (go_at_call 19; (with_reducible refine (HC.out).mono ?_); rintro e1 w1 ⟨rfl, hb1⟩; have HB1 := Lib.hid hb1; clear hb1)
    | (go_at_call 49; (with_reducible refine (HE.out _ (stp HB2.out HB1.out)).mono ?_); rintro e2 w2 ⟨rfl, hb2⟩; have HB3 := Lib.hid (stp (stp HB2.out HB1.out) hb2); have HX3 := Lib.hid (kept_heap (kept_heap HX2.out HB1.out) hb2); have k5 := cellV w2 _ 5 _ _ _ HX3.out; have f5 := freeV w2 _ 5 _ _ HX3.out; have HX4 := Lib.hid (heap_setCell_same w2 w.heap.size 5 _ _ (.int .i64 (m : Int)) HX3.out); clear hb2)
    | (refine wpList_load_row rfl _ _ rfl w.heap.size rfl 53 #[.int .u8 (n.kind : Int), .string x, .string y, .slice A n.attrs.length c, .string z, .int .i64 (m : Int)] (0, 0) _ HX4.out Try.underlying53 rfl infoNdS ?_)
    | fail)
  have HW3 : Hid (Below w.heap.size w (w2.setCell ⟨w.heap.size, 5, none⟩ (.int .i64 (m : Int)))) := Lib.hid (HB3.out.setCell (p := ⟨w.heap.size, 5, none⟩) (Nat.le_refl _) _)
  have HST0 := Lib.hid (put_first HN.out HW3.out)
  clear k5 f5
  go_loopg [8, 31] m (fun gg x8 i wr => ∃ (k : Nat) (L : List NB), k + gg = m ∧ i = .int .i64 k ∧ L.map NB.n = withM n m :: (ls.take k).flatten ∧ L.length ≤ 512 ∧ NdSt 0 w L x8 wr)
  case atStart => exact ⟨0, [⟨withM n m, x, y, z, A, c⟩], by omega, rfl, rfl, by rw [List.length_singleton]; decide, HST0.out⟩
  case round =>
    obtain ⟨k, L, hk, rfl, hmap, hlen, hst⟩ := hrel
    obtain ⟨Ao, co, rfl⟩ := own_form2 hst.1
    have HST := Lib.hid hst
    have HMAP := Lib.hid hmap
    have HLE := Lib.hid hlen
    have hm := HMX.out
    by_cases hlt : k < m
    · have hk1 : k < ls.length := by rw [HM.out]; exact hlt
      obtain ⟨b0, off, A1, c1, hA, hbB, hc, -, -, -, hrd⟩ := sl_at (HR.out.on hst.2.2) hk1
      have hrd0 := (sl_at HR.out hk1)
      obtain ⟨v, hv⟩ : ∃ v, ls[k]'hk1 = v := ⟨_, rfl⟩
      have hpo : partOk v = true := by rw [← hv]; exact List.all_eq_true.1 HALLP.out _ (List.getElem_mem hk1)
      obtain ⟨hp0, hp5⟩ := partOk_len hpo
      rw [hv] at hc hrd
      obtain ⟨p, hp⟩ : ∃ p, v.length = p := ⟨_, rfl⟩
      rw [hp] at hc hp0 hp5
      obtain ⟨b9, of9, A9', c9', hA9, hb9, hc9, -, -, -, hrd9⟩ := sl_at HR.out hk1
      have eA : A1 = A9' := by
        rw [hA] at hA9
        injection hA9 with e1
        injection e1 with e1 e2 _
        subst e1 e2
        have h7 := (hst.2.2.cell (p := ⟨b0, off + k, none⟩) hb9).trans hc9
        rw [hv, hp, hc] at h7
        injection h7 with h7
        injection h7
      subst eA
      rw [hv] at hrd9
      obtain ⟨b1, of1, hA1, hb1B, _⟩ := hrd9 (by rw [hp]; exact hp0)
      subst hA1
      obtain ⟨M, hM1, hM2, hM3⟩ := nodes_of hrd9
      have hML : M.length = p := by rw [← hp, ← hM1, List.length_map]
      have HNEWS : Hid (∀ (j : Nat) (u : Value), (M.flatMap nbCells)[j]? = some u → wr.cell? ((⟨b1, of1, none⟩ : Addr).add j) = some u) := Lib.hid fun j u hu => by
        have h8 := hM3 j u hu
        rw [addr_plain] at h8 ⊢
        exact (hst.2.2.cell (p := ⟨b1, _, none⟩) hb1B).trans h8
      have HM2' : Hid (∀ b ∈ M, NdIn b.n b.x b.y b.z b.A b.c wr (fun k => k < w.heap.size)) := Lib.hid fun b hb => (hM2 b hb).keep (fun _ h => h) fun bl o hlt => hst.2.2.cell (p := ⟨bl, o, none⟩) hlt
      have HFL : Hid ((M.flatMap nbCells).length = p * 6) := Lib.hid (by rw [flat_len nbCells 6 (fun _ => rfl), hML])
      have HML := Lib.hid hML
      have HM1 : Hid (M.map NB.n = v) := Lib.hid hM1
      have HPV : Hid (v.length = p) := Lib.hid hp
      have HP5 : Hid (0 < p ∧ p ≤ 512) := Lib.hid ⟨hp0, hp5⟩
      have HMAP2 : Hid ((L ++ M).map NB.n = withM n m :: (ls.take (k + 1)).flatten) := Lib.hid (by
        rw [List.map_append, hmap, hM1, List.take_succ_eq_append_getElem hk1, List.flatten_append, hv]
        simp)
      have HBIG : Hid (512 < L.length + p → putN n ls = ([], 4)) := Lib.hid fun hb => by
        rw [HPU.out, if_pos]
        have e1 : (L ++ M).length = 1 + (ls.take (k + 1)).flatten.length := by
          have := congrArg List.length HMAP2.out
          rw [List.length_map, List.length_cons] at this
          omega
        have e2 : (ls.take (k + 1)).flatten.length ≤ ls.flatten.length := by
          conv => rhs; rw [← List.take_append_drop (k + 1) ls, List.flatten_append, List.length_append]
          omega
        rw [List.length_append] at e1
        omega
      have bk : (0 : Int) ≤ (k : Int) ∧ (k : Int) < (m : Int) := by omega
      have HKG := Lib.hid hk
      have HBO : Hid (Below w.heap.size w wr) := Lib.hid hst.2.2
      subst hA
      clear hst hmap hrd hrd0 hpo hp0 hp5 hv hp hk1 hM1 hM2 hM3 hML hrd9 hc9 hA9 hb9 hb1B hk hlen hbB
      by_cases h5 : 512 < L.length + p
      · have f5 : decide ((512 : Int) < ((L.length + p : Nat) : Int)) = true := decide_eq_true (by omega)
        have f6 : decide ((512 : Int) < (L.length : Int) + (p : Int)) = true := decide_eq_true (by omega)
        have HP := Lib.hid (HBIG.out h5)
        go_wp2_with (first
          | (at_builtin; refine wpList_append_own_at _ rfl (.tmp 35) (.tmp 36) 22 rfl w.heap.size 53 i0 (.agg #[.int .u8 0, .string ⟨#[]⟩, .string ⟨#[]⟩, .slice none 0 0, .string ⟨#[]⟩, .int .i64 0]) 6 88 Try.underlying22 HI.out HZ0.out HZ1.out HZ2.out rfl (by decide) _ L.length _ rfl HST.out.1 ⟨b1, of1, none⟩ p c1 (M.flatMap nbCells) rfl HFL.out HNEWS.out (nb_one M) (by have := HLE.out; have := HP5.out; unfold maxLen; omega) (by have := HLE.out; have := HP5.out; omega) HBO.out.size ?_; intro v5 w5 hown5 hgr5 _ hlie; obtain ⟨A5, c5', rfl⟩ := own_form2 hown5; have HX5 := Lib.hid (part_fin HST.out rfl HM1.out HM2'.out (by rw [HPV.out]; exact hown5) hgr5 hlie); clear hown5 hgr5 hlie)
          | fail)
        go_ret2
        exact PutsTo.bad HP.out HX5.out.2.2
      · have f5 : decide ((512 : Int) < ((L.length + p : Nat) : Int)) = false := decide_eq_false (by omega)
        have f6 : decide ((512 : Int) < (L.length : Int) + (p : Int)) = false := decide_eq_false (by omega)
        go_wp2_with (first
          | (at_builtin; refine wpList_append_own_at _ rfl (.tmp 35) (.tmp 36) 22 rfl w.heap.size 53 i0 (.agg #[.int .u8 0, .string ⟨#[]⟩, .string ⟨#[]⟩, .slice none 0 0, .string ⟨#[]⟩, .int .i64 0]) 6 88 Try.underlying22 HI.out HZ0.out HZ1.out HZ2.out rfl (by decide) _ L.length _ rfl HST.out.1 ⟨b1, of1, none⟩ p c1 (M.flatMap nbCells) rfl HFL.out HNEWS.out (nb_one M) (by have := HLE.out; have := HP5.out; unfold maxLen; omega) (by have := HLE.out; have := HP5.out; omega) HBO.out.size ?_; intro v5 w5 hown5 hgr5 _ hlie; obtain ⟨A5, c5', rfl⟩ := own_form2 hown5; have HX5 := Lib.hid (part_fin HST.out rfl HM1.out HM2'.out (by rw [HPV.out]; exact hown5) hgr5 hlie); clear hown5 hgr5 hlie)
          | fail)
        go_roundg (gk - 1)
        case rel => exact ⟨k + 1, L ++ M, by have := HKG.out; omega, by go_num, HMAP2.out, by rw [List.length_append, HML.out]; omega, HX5.out⟩
        case measure => have := HKG.out; omega
    · obtain rfl : k = m := by omega
      obtain ⟨h1, h2⟩ := hst.read (Nat.zero_le _)
      have h2 : Hid True := Lib.hid trivial
      rw [hmap, ← HM.out, List.take_length] at h1
      rw [HM.out] at h1
      obtain ⟨V, hV⟩ : ∃ V, withM n (k : Int) :: ls.flatten = V := ⟨_, rfl⟩
      have hVL : V.length = L.length := by
        have := congrArg List.length hmap
        rw [List.length_map, ← HM.out, List.take_length, List.length_cons] at this
        rw [← hV, List.length_cons]
        omega
      rw [hV] at h1
      have hsmV : ∀ b ∈ V, SmallN b := by
        rw [← hV]
        intro b hb
        rcases List.mem_cons.1 hb with rfl | hb
        · exact HSN.out
        · obtain ⟨l, hl, hbl⟩ := List.mem_flatten.1 hb
          exact (HSM.out l hl).2 b hbl
      have hle : ¬ 512 < 1 + ls.flatten.length := by
        rw [← hV, List.length_cons] at hVL
        omega
      have hpu := HPU.out
      rw [if_neg hle, HM.out, hV] at hpu
      have HOUT : Hid (RdB NdS wr Ao V) := Lib.hid h1.all
      have HVL := Lib.hid hVL
      have HBW := Lib.hid hst.2.2
      have hlen2 := hlen
      cases hmv : mayV V with
      | true =>
        rw [hmv, if_pos rfl] at hpu
        have HP := Lib.hid hpu
        have HCK := Lib.hid (checkv Ao L.length co V wr HOUT.out hVL (by omega) (fun _ => hsmV) 0 (by unfold checkV; rw [hmv]; rfl))
        have HTW : Hid (∀ W, Below wr.heap.size wr W → Calls Try.prog 15 #[.slice Ao L.length co] W (TwinTo V W)) := Lib.hid fun W hW => twin10 Ao L.length co V W (HOUT.out.on hW) hVL (by omega) hsmV
        clear hst hmap h1 h2 hV hVL hsmV hle hpu hmv
        go_wp2_with (first
          | (go_at_call 19; (with_reducible refine (HCK.out).mono ?_); rintro e3 w3 ⟨rfl, hb3⟩; have HB4 := Lib.hid hb3; clear hb3)
          | (go_at_call 15; (with_reducible refine (HTW.out _ HB4.out).mono ?_); rintro e4 w4 ⟨A4, c4, rfl, ho4, hb4⟩; have HO4 := Lib.hid ho4; have HB5 := Lib.hid hb4; clear ho4 hb4)
          | fail)
        go_ret2
        exact ⟨V, 0, A4, c4, HP.out, rfl, HO4.out.weak (Nat.le_trans HBW.out.size HB4.out.size), stp (stp HBW.out HB4.out) HB5.out⟩
      | false =>
        rw [hmv, if_neg (by decide)] at hpu
        have HP := Lib.hid hpu
        have HCK := Lib.hid (checkv Ao L.length co V wr HOUT.out hVL (by omega) (fun _ => hsmV) 8 (by unfold checkV; rw [hmv]; rfl))
        clear hst hmap h1 h2 hV hVL hsmV hle hpu hmv
        go_wp2_with (first
          | (go_at_call 19; (with_reducible refine (HCK.out).mono ?_); rintro e3 w3 ⟨rfl, hb3⟩; have HB4 := Lib.hid hb3; clear hb3)
          | fail)
        go_ret2
        exact PutsTo.bad HP.out (stp HBW.out HB4.out)
end Hx
end Go.Proofs.Ytlfmjnocfkamaaa
