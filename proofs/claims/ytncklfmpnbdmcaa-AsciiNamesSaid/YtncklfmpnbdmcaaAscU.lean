/-
  Contracts of the document's own answers for layer 7 (tidewaiterref07): Cut, List.
-/
import Derived.Test.YtncklfmpnbdmcaaAscT
import Derived.Test.YtncklfmpnbdmcaaMemS
namespace Go.Proofs.Ytncklfmpnbdmcaa
open Go.RowKit
namespace Hx
open As
set_option linter.unusedVariables false
/-- A list of bytes as a text. -/
def mkB (l : List UInt8) : ByteArray := ⟨l.toArray⟩
theorem mkB_list (l : List UInt8) : (mkB l).data.toList = l := rfl
theorem mkB_size (l : List UInt8) : (mkB l).size = l.length := rfl
theorem extract_mid (s : ByteArray) (a b : Nat) : s.extract a b = mkB ((s.data.toList.drop a).take (b - a)) := by
  have := ByteArray.extract_mk s.data.toList a b
  rw [← ba_eq7] at this
  exact this
theorem cutF_len (l : List UInt8) : ∀ cur, (cutF cur l).length ≤ l.length + 1 := by
  induction l with
  | nil => intro cur; simp [cutF]
  | cons c l ih =>
    intro cur
    rw [cutF]
    split
    · have := ih []
      simp only [List.length_cons]
      omega
    · have := ih (cur ++ [c])
      simp only [List.length_cons]
      omega
theorem cutF_mem (l : List UInt8) : ∀ cur, ∀ p ∈ cutF cur l, p.length ≤ cur.length + l.length := by
  induction l with
  | nil => intro cur p hp; simp [cutF] at hp; subst hp; simp
  | cons c l ih =>
    intro cur p hp
    rw [cutF] at hp
    split at hp
    · rcases List.mem_cons.1 hp with rfl | hp
      · omega
      · have := ih [] p hp
        simp only [List.length_nil, List.length_cons] at *
        omega
    · have := ih (cur ++ [c]) p hp
      simp only [List.length_append, List.length_cons, List.length_nil] at *
      omega
theorem cut_mem (l p : List UInt8) (hp : p ∈ cut l) : p.length ≤ l.length := by
  have := cutF_mem l [] p hp
  simpa using this
theorem cutF_step {l : List UInt8} {k : Nat} {c : UInt8} (h : l[k]? = some c) (cur : List UInt8) : cutF cur (l.drop k) = if c.toNat = 44 then cur :: cutF [] (l.drop (k + 1)) else cutF (cur ++ [c]) (l.drop (k + 1)) := by
  obtain ⟨hk, e⟩ := List.getElem?_eq_some_iff.1 h
  rw [List.drop_eq_getElem_cons hk, e]
  rfl
theorem mid_snoc {l : List UInt8} {k a : Nat} {c : UInt8} (h : l[k]? = some c) (ha : a ≤ k) : (l.drop a).take (k + 1 - a) = (l.drop a).take (k - a) ++ [c] := by
  have e : (l.drop a)[k - a]? = some c := by rw [List.getElem?_drop, show a + (k - a) = k by omega]; exact h
  rw [show k + 1 - a = (k - a) + 1 by omega]
  exact take_next e
set_option maxHeartbeats 4000000 in
set_option maxRecDepth 100000 in
/-- ref.Cut, by commas. -/
theorem rcut7 (s : ByteArray) (w : World) (hm : s.size ≤ 1000000) :
    Calls Try.prog 26 #[.string s, .int .u8 44] w fun e w' => Below w.heap.size w w' ∧ ∃ A c, e = .returned (.slice A (cut s.data.toList).length c) ∧ (A = none → c = 0) ∧ RdG encS w' w'.heap.size A ((cut s.data.toList).map mkB) := by
  obtain ⟨i0, hi, hz0, hz1, hz2⟩ := info_parts infoS
  have HI := Lib.hid hi
  have HZ0 := Lib.hid hz0
  have HZ1 := Lib.hid hz1
  have HZ2 := Lib.hid hz2
  have HM := Lib.hid hm
  clear hi hz0 hz1 hz2 hm
  go_enter Try.func26, Try.ntmps26
  go_wp2_with fail
  go_loopg [5, 6, 7] s.size (fun gg v f i wr => ∃ (k a : Nat) (done : List (List UInt8)), k + gg = s.size ∧ a ≤ k ∧ f = .int .i64 a ∧ i = .int .i64 k ∧ wr.ownsRow w.heap.size 9 1 v done.length ((done.map mkB).map encS) ∧ Below w.heap.size w wr ∧ cut s.data.toList = done ++ cutF ((s.data.toList.drop a).take (k - a)) (s.data.toList.drop k) ∧ done.length ≤ k)
  case atStart => exact ⟨0, 0, [], by omega, Nat.le_refl _, rfl, rfl, World.ownsRow_nil _ _ _ _, Below.refl _ _, by simp [cut], Nat.le_refl _⟩
  case round =>
    obtain ⟨k, a, done, hk, ha, rfl, rfl, hown, hbw, hcut, hdl⟩ := hrel
    have HO := Lib.hid hown
    have HBW := Lib.hid hbw
    have HC := Lib.hid hcut
    have hsz := hbw.size
    have hMM := HM.out
    by_cases hlt : k < s.size
    · obtain ⟨c, hc, hat⟩ := byte_at s k hlt
      have bk : (0 : Int) ≤ (k : Int) ∧ (k : Int) < (s.size : Int) := by omega
      have ba : (0 : Int) ≤ (a : Int) ∧ (a : Int) ≤ (k : Int) := by omega
      have bs : (k : Int) ≤ (s.size : Int) := by omega
      have hst := cutF_step hc ((s.data.toList.drop a).take (k - a))
      by_cases h44 : c.toNat = 44
      · have d1 : ((c.toNat : Int) == 44) = true := by simp; omega
        have d2 : (c.toNat == 44) = true := by simpa using h44
        rw [if_pos h44] at hst
        obtain ⟨x, hx⟩ : ∃ x, s.extract a k = x := ⟨_, rfl⟩
        have hxm : x = mkB ((s.data.toList.drop a).take (k - a)) := by rw [← hx]; exact extract_mid s a k
        have HN : Hid (cut s.data.toList = (done ++ [(s.data.toList.drop a).take (k - a)]) ++ cutF ((s.data.toList.drop (k + 1)).take (k + 1 - (k + 1))) (s.data.toList.drop (k + 1))) := by
          show _ = _
          rw [HC.out, hst]
          simp
        have HX := Lib.hid hxm
        clear hown hbw hcut hc hst hxm h44
        go_wp2_with (first
          | (at_builtin; refine wpList_append_rdg encS_one rfl (.tmp 19) (.tmp 24) 22 rfl w.heap.size 9 i0 (.string ByteArray.empty) 16 Try.underlying22 HI.out HZ0.out HZ1.out HZ2.out (by decide) rfl _ done.length _ rfl (HO.out.alloc (.cells #[.string x] 9)) (wr.heap.size + 1) (some ⟨wr.heap.size, 0, none⟩) 1 1 [x] rfl (RdG.new (enc := encS) wr 9 [x]) rfl (fun h => by cases h) (by omega) (by rw [World.size_alloc]; omega) ?_; intro v4 w4 hown4 hgr4; have HO4 := Lib.hid hown4; have HG4 := Lib.hid hgr4; clear hown4 hgr4)
          | fail)
        have hb4 : Below w.heap.size w w4 := (HBW.out.alloc hsz _).grown HG4.out (by rw [World.size_alloc]; omega) (fun g hg => (HO.out.lt g hg).1)
        go_roundg (gk - 1)
        case rel =>
          refine ⟨k + 1, k + 1, done ++ [(s.data.toList.drop a).take (k - a)], by omega, Nat.le_refl _, by go_num, by go_num, ?_, hb4, HN.out, by simp; omega⟩
          rw [List.length_append, List.map_append, List.map_append]
          have := HO4.out
          rw [HX.out] at this
          exact this
        case measure => omega
      · have d1 : ((c.toNat : Int) == 44) = false := by simp; omega
        have d2 : (c.toNat == 44) = false := by simpa using h44
        rw [if_neg h44, ← mid_snoc hc ha] at hst
        have HN : Hid (cut s.data.toList = done ++ cutF ((s.data.toList.drop a).take (k + 1 - a)) (s.data.toList.drop (k + 1))) := by
          show _ = _
          rw [HC.out, hst]
        clear hown hbw hcut hc hst h44
        go_wp2_with fail
        go_roundg (gk - 1)
        case rel => exact ⟨k + 1, a, done, by omega, by omega, rfl, by go_num, HO.out, HBW.out, HN.out, by omega⟩
        case measure => omega
    · obtain rfl : s.size = k := by omega
      have ba : (0 : Int) ≤ (a : Int) ∧ (a : Int) ≤ (s.size : Int) := by omega
      have ba2 : a ≤ s.size := ha
      obtain ⟨x, hx⟩ : ∃ x, s.extract a s.size = x := ⟨_, rfl⟩
      have hxm : x = mkB ((s.data.toList.drop a).take (s.size - a)) := by rw [← hx]; exact extract_mid s a s.size
      have HF : Hid (cut s.data.toList = done ++ [(s.data.toList.drop a).take (s.size - a)]) := by
        show _ = _
        have hd : s.data.toList.drop s.size = [] := List.drop_of_length_le (by rw [ba_len7]; exact Nat.le_refl _)
        rw [HC.out, hd]
        rfl
      have HX := Lib.hid hxm
      clear hown hbw hcut hxm
      go_wp2_with (first
        | (at_builtin; refine wpList_append_rdg encS_one rfl (.tmp 28) (.tmp 32) 22 rfl w.heap.size 9 i0 (.string ByteArray.empty) 16 Try.underlying22 HI.out HZ0.out HZ1.out HZ2.out (by decide) rfl _ done.length _ rfl (HO.out.alloc (.cells #[.string x] 9)) (wr.heap.size + 1) (some ⟨wr.heap.size, 0, none⟩) 1 1 [x] rfl (RdG.new (enc := encS) wr 9 [x]) rfl (fun h => by cases h) (by omega) (by rw [World.size_alloc]; omega) ?_; intro v4 w4 hown4 hgr4; rw [← List.map_append] at hown4; obtain ⟨A4, k4, rfl, hz4, hr4, hl4⟩ := own_any hown4; have HR4 := Lib.hid hr4; have HZ4 := Lib.hid hz4; have HG4 := Lib.hid hgr4; clear hown4 hgr4 hr4 hz4 hl4)
        | fail)
      have hb4 : Below w.heap.size w w4 := (HBW.out.alloc hsz _).grown HG4.out (by rw [World.size_alloc]; omega) (fun g hg => (HO.out.lt g hg).1)
      go_ret
      refine ⟨hb4, A4, k4, ?_, HZ4.out, ?_⟩
      · rw [HF.out, List.length_append]; rfl
      · rw [HF.out, List.map_append]
        have := HR4.out
        rw [HX.out] at this
        exact this
/-- A list's parts, or none beside an error. -/
def listS (s : ByteArray) : List ByteArray := if listE s.data.toList = 0 then (parts s.data.toList).map mkB else []
/-- What List answers. -/
def ListTo (l : List ByteArray) (n : Nat) (q : Int) (w : World) (e : Ending) (w' : World) : Prop := Below w.heap.size w w' ∧ ∃ A c, e = .returned (.tuple #[.slice A n c, .int .i64 q]) ∧ (A = none → c = 0) ∧ RdG encS w' w'.heap.size A l
theorem part_some {p : List UInt8} (h : trim p ≠ []) : aPart p = some (lows (trim p)) := by unfold aPart; rw [if_neg h]
theorem part_none {p : List UInt8} (h : trim p = []) : aPart p = none := by unfold aPart; rw [if_pos h]
theorem take_part {ps : List (List UInt8)} {k : Nat} {p : List UInt8} (h : ps[k]? = some p) : (ps.take (k + 1)).filterMap aPart = (ps.take k).filterMap aPart ++ (aPart p).toList := by
  obtain ⟨hk, e⟩ := List.getElem?_eq_some_iff.1 h
  rw [List.take_succ_eq_append_getElem hk, e, List.filterMap_append]
  cases hp : aPart p <;> simp [hp]
theorem filt_len (ps : List (List UInt8)) (k : Nat) : ((ps.take k).filterMap aPart).length ≤ k := by
  have h1 := List.length_filterMap_le aPart (ps.take k)
  rw [List.length_take] at h1
  omega
theorem listS_map (s : ByteArray) (h : listE s.data.toList = 0) : listS s = (parts s.data.toList).map mkB := by unfold listS; rw [if_pos h]
theorem listS_nil (s : ByteArray) (h : listE s.data.toList ≠ 0) : listS s = [] := by unfold listS; rw [if_neg h]
set_option maxHeartbeats 4000000 in
set_option maxRecDepth 100000 in
/-- ref.List. -/
theorem rlist7 (s : ByteArray) (l : List ByteArray) (n : Nat) (q : Int) (w : World) (hm : s.size ≤ 1000000) (hl : listS s = l) (hn : l.length = n) (hq : (listE s.data.toList : Int) = q) :
    Calls Try.prog 14 #[.string s] w (ListTo l n q w) := by
  obtain ⟨i0, hi, hz0, hz1, hz2⟩ := info_parts infoS
  obtain ⟨ps, hps⟩ : ∃ ps, cut s.data.toList = ps := ⟨_, rfl⟩
  obtain ⟨np, hnp⟩ : ∃ np, ps.length = np := ⟨_, rfl⟩
  have hple : np ≤ 1000001 := by
    have := cutF_len s.data.toList []
    rw [ba_len7] at this
    rw [← hnp, ← hps]
    show (cutF [] s.data.toList).length ≤ _
    omega
  have hpz : ∀ p ∈ ps, p.length ≤ 1000000 := by
    intro p hp
    rw [← hps] at hp
    exact Nat.le_trans (cut_mem _ p hp) (by rw [ba_len7]; exact hm)
  have hparts : parts s.data.toList = ps.filterMap aPart := by unfold parts; rw [hps]
  have HCUT : Hid (∀ W : World, Calls Try.prog 26 #[.string s, .int .u8 44] W fun e w' => Below W.heap.size W w' ∧ ∃ A c, e = .returned (.slice A np c) ∧ RdG encS w' w'.heap.size A (ps.map mkB)) := by
    intro W
    have := rcut7 s W hm
    rw [hps, hnp] at this
    exact this.mono fun e w' ⟨h1, A, c, h2, _, h3⟩ => ⟨h1, A, c, h2, h3⟩
  have HI := Lib.hid hi
  have HZ0 := Lib.hid hz0
  have HZ1 := Lib.hid hz1
  have HZ2 := Lib.hid hz2
  have HNP := Lib.hid hnp
  have HPZ := Lib.hid hpz
  have HPA := Lib.hid hparts
  have HL := Lib.hid hl
  have HN := Lib.hid hn
  have HQ := Lib.hid hq
  clear hi hz0 hz1 hz2 hm hnp hpz hps hparts hl hn hq
  go_enter Try.func14, Try.ntmps14
  go_wp2_with (first
    | (go_at_call 26; (with_reducible refine (HCUT.out w).mono ?_); rintro e w1 ⟨hb1, A1, c1, rfl, hr1⟩; have HB1 := Lib.hid hb1; have HR1 := Lib.hid hr1; clear hr1)
    | fail)
  go_loopg [4, 6] np (fun gg v i wr => ∃ (k : Nat), k + gg = np ∧ i = .int .i64 k ∧ wr.ownsRow w1.heap.size 9 1 v ((ps.take k).filterMap aPart).length ((((ps.take k).filterMap aPart).map mkB).map encS) ∧ Below w1.heap.size w1 wr)
  case atStart => exact ⟨0, by omega, rfl, World.ownsRow_nil _ _ _ _, Below.refl _ _⟩
  case round =>
    obtain ⟨k, hk, rfl, hown, hb1w⟩ := hrel
    obtain ⟨m, hmm⟩ : ∃ m, ((ps.take k).filterMap aPart).length = m := ⟨_, rfl⟩
    have hmk : m ≤ k := by rw [← hmm]; exact filt_len ps k
    rw [hmm] at hown
    have HMM := Lib.hid hmm
    have HO := Lib.hid hown
    have HB1W := Lib.hid hb1w
    have hsz := hb1w.size
    clear hmm hb1
    by_cases hlt : k < np
    · have hkp : k < ps.length := by rw [HNP.out]; exact hlt
      obtain ⟨g, o, rfl, hg, hc⟩ := HR1.out (by rw [List.length_map]; omega)
      have hkm : k < (ps.map mkB).length := by rw [List.length_map]; exact hkp
      have hcell0 := (hb1w.cell (p := ⟨g, o + k, none⟩) hg).trans (hc k hkm)
      obtain ⟨p, hp⟩ : ∃ p, ps[k]'hkp = p := ⟨_, rfl⟩
      rw [List.getElem_map, hp] at hcell0
      have hpk : ps[k]? = some p := by rw [List.getElem?_eq_getElem hkp, hp]
      have hcell : wr.cell? ⟨g, o + k, none⟩ = some (.string (mkB p)) := hcell0
      obtain ⟨pb, hpb⟩ : ∃ pb, mkB p = pb := ⟨_, rfl⟩
      rw [hpb] at hcell
      have HPB : Hid (pb.size ≤ 1000000) := by
        show _ ≤ _
        rw [← hpb, mkB_size]
        exact HPZ.out p (List.mem_of_getElem? hpk)
      obtain ⟨t, ht⟩ : ∃ t, trimS pb = t := ⟨_, rfl⟩
      have htl : t.data.toList = trim p := by rw [← ht, ← hpb]; rfl
      have bk : (0 : Int) ≤ (k : Int) ∧ (k : Int) < (np : Int) := by omega
      have hnx := take_part hpk
      have HT := Lib.hid ht
      have HTS : Hid (t.size ≤ 1000000) := by
        show _ ≤ _
        rw [← ba_len7, htl]
        refine Nat.le_trans (trim_len p) ?_
        have := HPB.out
        rwa [← hpb, mkB_size] at this
      by_cases h0 : t.size = 0
      · have e1 : (t.toList == (⟨#[]⟩ : ByteArray).toList) = true := by rw [empty_b]; simpa using h0
        have e2 : (t.toList == []) = true := by rw [empty_b2]; simpa using h0
        have e3 : (t.toList != []) = false := by rw [bne, e2]; rfl
        have htn : trim p = [] := by
          rw [← htl]
          exact List.eq_nil_of_length_eq_zero (by rw [ba_len7]; exact h0)
        rw [part_none htn] at hnx
        have HNX : Hid ((ps.take (k + 1)).filterMap aPart = (ps.take k).filterMap aPart) := by show _ = _; rw [hnx]; simp
        clear hown hb1w hc hcell0 hp hpk hpb htl hnx htn ht h0 hkm hkp
        go_wp2_with (first
          | (go_at_call 19; (with_reducible refine (rtrim7 pb t wr HPB.out HT.out).mono ?_); rintro e w2 ⟨rfl, hb2⟩; have HB2 := Lib.hid hb2)
          | fail)
        go_roundg (gk - 1)
        case rel =>
          refine ⟨k + 1, by omega, by go_num, ?_, stp HB1W.out HB2.out⟩
          rw [HNX.out, HMM.out]
          exact own_below HO.out HB2.out (Nat.le_refl _)
        case measure => omega
      · have e1 : (t.toList == (⟨#[]⟩ : ByteArray).toList) = false := by rw [empty_b]; simpa using h0
        have e2 : (t.toList == []) = false := by rw [empty_b2]; simpa using h0
        have e3 : (t.toList != []) = true := by rw [bne, e2]; rfl
        have htn : trim p ≠ [] := by
          rw [← htl]
          intro h
          rw [← ba_len7, h] at h0
          exact h0 rfl
        rw [part_some htn] at hnx
        obtain ⟨x, hx⟩ : ∃ x, lowS t = x := ⟨_, rfl⟩
        have hxm : x = mkB (lows (trim p)) := by rw [← hx, lowS, htl]; rfl
        have HNX : Hid ((((ps.take (k + 1)).filterMap aPart).map mkB).map encS = (((ps.take k).filterMap aPart).map mkB).map encS ++ [x].map encS) := by
          show _ = _
          rw [hnx, hxm]
          simp
        have HNL : Hid (((ps.take (k + 1)).filterMap aPart).length = m + 1) := by
          show _ = _
          rw [hnx, List.length_append, HMM.out]
          rfl
        have HXL := Lib.hid hx
        clear hown hb1w hc hcell0 hp hpk hpb htl hnx htn ht h0 hkm hkp hx hxm
        go_wp2_with (first
          | (go_at_call 19; (with_reducible refine (rtrim7 pb t wr HPB.out HT.out).mono ?_); rintro e w2 ⟨rfl, hb2⟩; have HB2 := Lib.hid hb2; clear hb2)
          | (go_at_call 16; (with_reducible refine (rlower7 t x w2 HTS.out HXL.out).mono ?_); rintro e w3 ⟨rfl, hb3⟩; have HB3 := Lib.hid (stp HB2.out hb3); have hs3 := (stp HB1W.out HB3.out).size; have HO3 := Lib.hid (own_below HO.out HB3.out (Nat.le_refl _)); clear hb3)
          | (at_builtin; refine wpList_append_rdg encS_one rfl (.tmp 24) (.tmp 27) 22 rfl w1.heap.size 9 i0 (.string ByteArray.empty) 16 Try.underlying22 HI.out HZ0.out HZ1.out HZ2.out (by decide) rfl _ m _ rfl (HO3.out.alloc (.cells #[.string x] 9)) (w3.heap.size + 1) (some ⟨w3.heap.size, 0, none⟩) 1 1 [x] rfl (RdG.new (enc := encS) w3 9 [x]) rfl (fun h => by cases h) (by omega) (by rw [World.size_alloc]; omega) ?_; intro v4 w4 hown4 hgr4; have HO4 := Lib.hid hown4; have HG4 := Lib.hid hgr4; clear hown4 hgr4)
          | fail)
        have hb4 : Below w1.heap.size w1 w4 := ((stp HB1W.out HB3.out).alloc hs3 _).grown HG4.out (by rw [World.size_alloc]; omega) (fun g hg => (HO3.out.lt g hg).1)
        go_roundg (gk - 1)
        case rel =>
          refine ⟨k + 1, by omega, by go_num, ?_, hb4⟩
          rw [HNX.out, HNL.out]
          exact HO4.out
        case measure => omega
    · obtain rfl : np = k := by omega
      have htk : ps.take np = ps := List.take_of_length_le (by rw [HNP.out]; exact Nat.le_refl _)
      rw [htk] at HMM HO
      rw [← HPA.out] at HMM HO
      obtain ⟨A2, c2, rfl, hz2, hr2, hl2⟩ := own_any HO.out
      have HR2 := Lib.hid hr2
      have HZA := Lib.hid hz2
      have HBE := Lib.hid (stp HB1.out HB1W.out)
      have hML : m ≤ 1000001 := by omega
      by_cases h16 : 16 < m
      · have d0 : decide ((16 : Int) < (m : Int)) = true := by simp; omega
        have hE : listE s.data.toList = 4 := by unfold listE; rw [HMM.out, if_pos h16]
        obtain rfl : (4 : Int) = q := by rw [← HQ.out, hE]; rfl
        obtain rfl : [] = l := by rw [← HL.out, listS_nil s (by rw [hE]; decide)]
        obtain rfl : 0 = n := HN.out
        clear hown hb1w htk hz2 hr2 hl2 hE
        go_wp2_with fail
        go_ret2
        exact ⟨HBE.out, none, 0, rfl, fun _ => rfl, RdG.nil _ _ _⟩
      · have d0 : decide ((16 : Int) < (m : Int)) = false := by simp; omega
        have HE : Hid (listE s.data.toList = if (parts s.data.toList).all isTok then 0 else 8) := by show _ = _; unfold listE; rw [HMM.out, if_neg h16]
        obtain ⟨ts, hts⟩ : ∃ ts, parts s.data.toList = ts := ⟨_, rfl⟩
        have HTZ : Hid (∀ x ∈ ts, x.length ≤ 1000000) := by
          intro x hx
          rw [← hts, HPA.out, List.mem_filterMap] at hx
          obtain ⟨p, hp, hpx⟩ := hx
          unfold aPart at hpx
          split at hpx
          · cases hpx
          · cases hpx
            rw [lows_length]
            exact Nat.le_trans (trim_len p) (HPZ.out p hp)
        rw [hts] at HMM HE HR2
        have HTS := Lib.hid hts
        clear hown hb1w htk hz2 hr2 hl2 hts
        go_wp2_with fail
        obtain ⟨wo, rfl⟩ : ∃ wo : World, wo = wr := ⟨_, rfl⟩
        go_loopg [8] m (fun gg i wr2 => ∃ k : Nat, k + gg = m ∧ i = .int .i64 k ∧ Below wo.heap.size wo wr2 ∧ (ts.take k).all isTok = true)
        case atStart => exact ⟨0, by omega, rfl, Below.refl _ _, rfl⟩
        case round =>
          obtain ⟨k, hk2, rfl, hbw2, hall⟩ := hrel
          have HALL := Lib.hid hall
          have HBW2 := Lib.hid hbw2
          clear hall
          by_cases hlt2 : k < m
          · have hkt : k < ts.length := by rw [HMM.out]; exact hlt2
            obtain ⟨g, o, rfl, hg, hc⟩ := HR2.out (by rw [List.length_map]; omega)
            have hkm : k < (ts.map mkB).length := by rw [List.length_map]; exact hkt
            have hcell0 := (hbw2.cell (p := ⟨g, o + k, none⟩) hg).trans (hc k hkm)
            obtain ⟨x, hx⟩ : ∃ x, ts[k]'hkt = x := ⟨_, rfl⟩
            rw [List.getElem_map, hx] at hcell0
            have hxk : ts[k]? = some x := by rw [List.getElem?_eq_getElem hkt, hx]
            have hcell : wr.cell? ⟨g, o + k, none⟩ = some (.string (mkB x)) := hcell0
            obtain ⟨xb, hxb⟩ : ∃ xb, mkB x = xb := ⟨_, rfl⟩
            rw [hxb] at hcell
            have HXB : Hid (xb.size ≤ 1000000) := by
              show _ ≤ _
              rw [← hxb, mkB_size]
              exact HTZ.out x (List.mem_of_getElem? hxk)
            have bk : (0 : Int) ≤ (k : Int) ∧ (k : Int) < (m : Int) := by omega
            cases htx : isTok x
            · have HTX : Hid (isTok xb.data.toList = false) := by show _ = _; rw [← hxb]; exact htx
              have hE : listE s.data.toList = 8 := by
                rw [HE.out, if_neg]
                rw [Bool.not_eq_true, List.all_eq_false]
                exact ⟨x, List.mem_of_getElem? hxk, by simp [htx]⟩
              obtain rfl : (8 : Int) = q := by rw [← HQ.out, hE]; rfl
              obtain rfl : [] = l := by rw [← HL.out, listS_nil s (by rw [hE]; decide)]
              obtain rfl : 0 = n := HN.out
              clear hc hcell0 hx hxk hxb htx hE hkm hkt hbw2
              go_wp2_with (go_at_call 20; (with_reducible refine (rtoken7 xb false wr HXB.out HTX.out).mono ?_); rintro e w5 ⟨rfl, hb5⟩)
              go_ret2
              exact ⟨stp (stp HBE.out HBW2.out) hb5, none, 0, rfl, fun _ => rfl, RdG.nil _ _ _⟩
            · have HTX : Hid (isTok xb.data.toList = true) := by show _ = _; rw [← hxb]; exact htx
              have HALL2 : Hid ((ts.take (k + 1)).all isTok = true) := by
                show _ = _
                obtain ⟨hk3, e3⟩ := List.getElem?_eq_some_iff.1 hxk
                rw [List.take_succ_eq_append_getElem hk3, e3, List.all_append, HALL.out]
                simp [htx]
              clear hc hcell0 hx hxk hxb htx hkm hkt hbw2
              go_wp2_with (go_at_call 20; (with_reducible refine (rtoken7 xb true wr HXB.out HTX.out).mono ?_); rintro e w5 ⟨rfl, hb5⟩)
              go_roundg (gk - 1)
              case rel => exact ⟨k + 1, by omega, by go_num, stp HBW2.out hb5, HALL2.out⟩
              case measure => omega
          · obtain rfl : m = k := by omega
            have hE : listE s.data.toList = 0 := by
              have := HALL.out
              rw [List.take_of_length_le (by rw [HMM.out]; exact Nat.le_refl _)] at this
              rw [HE.out, if_pos this]
            obtain rfl : (0 : Int) = q := by rw [← HQ.out, hE]; rfl
            have hlm := listS_map s hE
            rw [HL.out, HTS.out] at hlm
            subst hlm
            obtain rfl : m = n := by rw [← HN.out, List.length_map, HMM.out]
            clear hE
            go_wp2_with fail
            go_ret2
            exact ⟨stp HBE.out HBW2.out, A2, c2, rfl, HZA.out, HR2.out.on HBW2.out⟩
end Hx
end Go.Proofs.Ytncklfmpnbdmcaa
