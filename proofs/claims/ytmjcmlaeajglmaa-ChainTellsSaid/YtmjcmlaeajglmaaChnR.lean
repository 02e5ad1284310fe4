/-
  The contracts of the document's own answers for layer 4 (tidewaiterref04).
-/
import Derived.Test.YtmjcmlaeajglmaaHexQ
import Derived.Test.YtmjcmlaeajglmaaShaW
import Derived.BigQuiet
namespace Go.Proofs.Ytmjcmlaeajglmaa
open Go.RowKit
namespace Hx
open Go Wd Sh
set_option linter.unusedVariables false

theorem rput_key (g : Nat) (D : List UInt8) (ks : ByteArray) (hD : D.length = 20) (hk : ks = ⟨(putL D).toArray⟩) (w : World) (h : w.heap[g]? = some (.cells (D.map encB).toArray 23 (0, 0))) :
    Calls Try.prog 53 #[.slice (some ⟨g, 0, none⟩) 20 20] w fun e w' => e = .returned (.string ks) ∧ Below w.heap.size w w' := by
  have hb : Blk encB w g 23 D := h
  have := rhput_any (some ⟨g, 0, none⟩) 20 20 D w (rdA_rdB.1 hb.slice) hD (by decide)
  rw [← hk] at this
  exact this

set_option maxHeartbeats 2000000 in
set_option maxRecDepth 100000 in
theorem rbehind_ok (s : ByteArray) (w : World) (hm : s.size ≤ 16384) (ks : ByteArray) (hk : keyB s = ks) :
    Calls Try.prog 40 #[.string s] w fun e w' => e = .returned (.string ks) ∧ Below w.heap.size w w' := by
  obtain ⟨l, hl⟩ : ∃ l, s.data.toList = l := ⟨_, rfl⟩
  obtain rfl : s = ⟨l.toArray⟩ := by rw [← hl]
  have hlen : l.length ≤ 16384 := by rw [← hl, ba_len]; exact hm
  obtain ⟨D, hD⟩ : ∃ D, dig l = D := ⟨_, rfl⟩
  have hw : ks = ⟨(putL D).toArray⟩ := by rw [← hk, keyB_mk, hD]
  obtain ⟨C, WB, hconv, hrd, hb1⟩ := str_bytes l w
  have hDl : D.length = 20 := by rw [← hD]; exact dig_length l
  have HD := Lib.hid hD
  have HW := Lib.hid hw
  have HRD := Lib.hid hrd
  have HS1 : Hid ((Try.prog.info? 23).map (·.size) = some ((D.map encB).toArray).size) := by show _ = _; rw [List.size_toArray, List.length_map, hDl]; kernel_rfl
  have HS2 : Hid (z20.size = ((D.map encB).toArray).size) := by show (20 : Nat) = _; rw [List.size_toArray, List.length_map, hDl]
  have HDL := Lib.hid hDl
  clear hD hw hrd hDl hk hl hm
  go_enter Try.func40, Try.ntmps40
  go_wp2_with (first
    | (go_at_call 33; (with_reducible refine (rdigest_any (some ⟨w.heap.size, 0, none⟩) l.length C l WB HRD.out rfl (fun h => by cases h) hlen D HD.out).mono ?_); rintro e w2 ⟨rfl, hb2⟩)
    | (refine wpList_store_row rfl _ _ _ rfl w2.heap.size ((D.map encB).toArray) rfl rfl 23 z20 (heap_alloc_new _ _) HS1.out HS2.out (map_one encB_one _) ?_; rw [World.setRow_alloc_new]; obtain ⟨W3, hW3, hs3, hx3, hb3⟩ := opn1 w2 (.cells (D.map encB).toArray 23); rw [hW3]; have HX3 := Lib.hid hx3; clear hW3 hx3 hs3)
    | (go_at_call 53; (with_reducible refine (rput_key w2.heap.size D ks HDL.out HW.out W3 HX3.out).mono ?_); rintro e w4 ⟨rfl, hb4⟩)
    | fail)
  go_ret
  exact ⟨rfl, stp (stp (stp hb1 hb2) hb3) hb4⟩
set_option maxRecDepth 100000 in
theorem ris4_b (s : ByteArray) (w : World) (hm : s.size ≤ 1000000) (b : Bool) (h : isK s = b) :
    Calls Try.prog 41 #[.string s] w fun e w' => e = .returned (.bool b) ∧ w = w' := by
  have HM := Lib.hid hm
  have H : Hid ((decide ((s.size : Int) = 40) && allD s.data.toList) = b) := h
  clear hm h
  go_enter Try.func41, Try.ntmps41
  go_wp2_with (go_at_call 54; (with_reducible refine (ris_b s 40 b w HM.out H.out).mono ?_); rintro e w1 ⟨rfl, rfl⟩)
  go_ret
  exact ⟨rfl, rfl⟩
set_option maxRecDepth 100000 in
theorem rnext_ok (s : ByteArray) (w : World) (hm : s.size ≤ 16384) (ks : ByteArray) (hk : keyB s = ks) :
    Calls Try.prog 22 #[.string s] w fun e w' => e = .returned (.tuple #[.string ks, .int .i64 0]) ∧ Below w.heap.size w w' := by
  have d0 : decide ((16384 : Int) < (s.size : Int)) = false := by simp; omega
  have d1 : ¬ (16384 < s.size) := by omega
  have HM := Lib.hid hm
  have HK := Lib.hid hk
  clear hm hk
  go_enter Try.func22, Try.ntmps22
  go_wp2_with (go_at_call 40; (with_reducible refine (rbehind_ok s w HM.out ks HK.out).mono ?_); rintro e w1 ⟨rfl, hb1⟩)
  go_ret2
  exact ⟨rfl, hb1⟩
set_option maxRecDepth 100000 in
theorem rnext_many (s : ByteArray) (w : World) (hm : 16384 < s.size) :
    Calls Try.prog 22 #[.string s] w fun e w' => e = .returned (.tuple #[.string ⟨#[]⟩, .int .i64 4]) ∧ w = w' := by
  have d0 : decide ((16384 : Int) < (s.size : Int)) = true := by simp; omega
  have d1 : 16384 < s.size := hm
  go_enter Try.func22, Try.ntmps22
  go_wp2
  go_ret2
  exact ⟨rfl, rfl⟩
set_option maxHeartbeats 1000000 in
set_option maxRecDepth 100000 in
theorem rfits_b (stored key : ByteArray) (w : World) (b : Bool) (hs : stored.size ≤ 1000000) (hk : key.size ≤ 1000000) (h : fitB stored key = b) :
    Calls Try.prog 27 #[.string stored, .string key] w fun e w' => e = .returned (.bool b) ∧ Below w.heap.size w w' := by
  unfold fitB at h
  have HS := Lib.hid hs
  have HK0 := Lib.hid hk
  clear hs hk
  cases h1 : isK stored
  · rw [h1] at h
    obtain rfl : b = false := by simpa using h.symm
    have H1 := Lib.hid h1
    clear h h1
    go_enter Try.func27, Try.ntmps27
    go_wp2_with (go_at_call 41; (with_reducible refine (ris4_b stored w HS.out false H1.out).mono ?_); rintro e w1 ⟨rfl, rfl⟩)
    go_ret
    exact ⟨rfl, Below.refl _ _⟩
  · cases h2 : isK key
    · rw [h1, h2] at h
      obtain rfl : b = false := by simpa using h.symm
      have H1 := Lib.hid h1
      have H2 := Lib.hid h2
      clear h h1 h2
      go_enter Try.func27, Try.ntmps27
      go_wp2_with (first
        | (go_at_call 41; (with_reducible refine (ris4_b stored w HS.out true H1.out).mono ?_); rintro e w1 ⟨rfl, rfl⟩)
        | (go_at_call 41; (with_reducible refine (ris4_b key w HK0.out false H2.out).mono ?_); rintro e w2 ⟨rfl, rfl⟩)
        | fail)
      go_ret
      exact ⟨rfl, Below.refl _ _⟩
    · rw [h1, h2] at h
      obtain ⟨ks, hk⟩ : ∃ ks, keyB key = ks := ⟨_, rfl⟩
      rw [hk] at h
      have hb : decide (ks = stored) = b := by simpa using h
      have hsz : key.size ≤ 16384 := by have := isK_size h2; omega
      have hq : (ks.toList == stored.toList) = b := by rw [seq_b]; exact hb
      have H1 := Lib.hid h1
      have H2 := Lib.hid h2
      have HK := Lib.hid hk
      have HZ := Lib.hid hsz
      clear h h1 h2 hk hb hsz
      go_enter Try.func27, Try.ntmps27
      go_wp2_with (first
        | (go_at_call 41; (with_reducible refine (ris4_b stored w HS.out true H1.out).mono ?_); rintro e w1 ⟨rfl, rfl⟩)
        | (go_at_call 41; (with_reducible refine (ris4_b key w HK0.out true H2.out).mono ?_); rintro e w2 ⟨rfl, rfl⟩)
        | (go_at_call 40; (with_reducible refine (rbehind_ok key w HZ.out ks HK.out).mono ?_); rintro e w3 ⟨rfl, hb3⟩)
        | fail)
      go_ret
      exact ⟨rfl, hb3⟩
set_option maxHeartbeats 1000000 in
set_option maxRecDepth 100000 in
theorem rtake_no (stored key fresh : ByteArray) (has : Bool) (w : World) (hs : stored.size ≤ 1000000) (hk : key.size ≤ 1000000) (h : fitB stored key = false) :
    Calls Try.prog 24 #[.string stored, .string key, .string fresh, .bool has] w fun e w' => e = .returned (.tuple #[.string ⟨#[]⟩, .int .i64 40]) ∧ Below w.heap.size w w' := by
  have HS := Lib.hid hs
  have HK := Lib.hid hk
  have H := Lib.hid h
  clear hs hk h
  go_enter Try.func24, Try.ntmps24
  go_wp2_with (go_at_call 27; (with_reducible refine (rfits_b stored key w false HS.out HK.out H.out).mono ?_); rintro e w1 ⟨rfl, hb1⟩)
  go_ret2
  exact ⟨rfl, hb1⟩
set_option maxHeartbeats 1000000 in
set_option maxRecDepth 100000 in
theorem rtake_old (stored key fresh : ByteArray) (w : World) (hs : stored.size ≤ 1000000) (hk : key.size ≤ 1000000) (h : fitB stored key = true) :
    Calls Try.prog 24 #[.string stored, .string key, .string fresh, .bool false] w fun e w' => e = .returned (.tuple #[.string key, .int .i64 0]) ∧ Below w.heap.size w w' := by
  have HS := Lib.hid hs
  have HK := Lib.hid hk
  have H := Lib.hid h
  clear hs hk h
  go_enter Try.func24, Try.ntmps24
  go_wp2_with (go_at_call 27; (with_reducible refine (rfits_b stored key w true HS.out HK.out H.out).mono ?_); rintro e w1 ⟨rfl, hb1⟩)
  go_ret2
  exact ⟨rfl, hb1⟩
set_option maxHeartbeats 1000000 in
set_option maxRecDepth 100000 in
theorem rtake_bad (stored key fresh : ByteArray) (w : World) (hs : stored.size ≤ 1000000) (hk : key.size ≤ 1000000) (hf : fresh.size ≤ 1000000) (h : fitB stored key = true) (h2 : isK fresh = false) :
    Calls Try.prog 24 #[.string stored, .string key, .string fresh, .bool true] w fun e w' => e = .returned (.tuple #[.string ⟨#[]⟩, .int .i64 40]) ∧ Below w.heap.size w w' := by
  have HS := Lib.hid hs
  have HK := Lib.hid hk
  have HF := Lib.hid hf
  have H := Lib.hid h
  have H2 := Lib.hid h2
  clear hs hk hf h h2
  go_enter Try.func24, Try.ntmps24
  go_wp2_with (first
    | (go_at_call 27; (with_reducible refine (rfits_b stored key w true HS.out HK.out H.out).mono ?_); rintro e w1 ⟨rfl, hb1⟩)
    | (go_at_call 41; (with_reducible refine (ris4_b fresh w1 HF.out false H2.out).mono ?_); rintro e w2 ⟨rfl, rfl⟩)
    | fail)
  go_ret2
  exact ⟨rfl, hb1⟩
set_option maxHeartbeats 1000000 in
set_option maxRecDepth 100000 in
theorem rtake_new (stored key fresh : ByteArray) (w : World) (hs : stored.size ≤ 1000000) (hk : key.size ≤ 1000000) (hf : fresh.size ≤ 1000000) (h : fitB stored key = true) (h2 : isK fresh = true) :
    Calls Try.prog 24 #[.string stored, .string key, .string fresh, .bool true] w fun e w' => e = .returned (.tuple #[.string fresh, .int .i64 0]) ∧ Below w.heap.size w w' := by
  have HS := Lib.hid hs
  have HK := Lib.hid hk
  have HF := Lib.hid hf
  have H := Lib.hid h
  have H2 := Lib.hid h2
  clear hs hk hf h h2
  go_enter Try.func24, Try.ntmps24
  go_wp2_with (first
    | (go_at_call 27; (with_reducible refine (rfits_b stored key w true HS.out HK.out H.out).mono ?_); rintro e w1 ⟨rfl, hb1⟩)
    | (go_at_call 41; (with_reducible refine (ris4_b fresh w1 HF.out true H2.out).mono ?_); rintro e w2 ⟨rfl, rfl⟩)
    | fail)
  go_ret2
  exact ⟨rfl, hb1⟩
theorem rtake_any (stored key fresh : ByteArray) (has : Bool) (w : World) (hs : stored.size ≤ 1000000) (hk : key.size ≤ 1000000) (hf : fresh.size ≤ 1000000) (x : ByteArray) (n : Int) (hx : takeS stored key fresh has = x) (hn : takeE stored key fresh has = n) :
    Calls Try.prog 24 #[.string stored, .string key, .string fresh, .bool has] w fun e w' => e = .returned (.tuple #[.string x, .int .i64 n]) ∧ Below w.heap.size w w' := by
  subst hx hn
  unfold takeS takeE
  cases h : fitB stored key
  · exact rtake_no stored key fresh has w hs hk h
  · cases has
    · exact rtake_old stored key fresh w hs hk h
    · cases h2 : isK fresh
      · exact rtake_bad stored key fresh w hs hk hf h h2
      · exact rtake_new stored key fresh w hs hk hf h h2
set_option maxRecDepth 100000 in
theorem rmake_arg (s : ByteArray) (n : Int) (w : World) (hn : n < 0 ∨ 256 < n) :
    Calls Try.prog 23 #[.string s, .int .i64 n] w fun e w' => e = .returned (.tuple #[.slice none 0 0, .int .i64 2]) ∧ w = w' := by
  by_cases h0 : n < 0
  · have d0 : decide (n < 0) = true := by simpa using h0
    go_enter Try.func23, Try.ntmps23
    go_wp2
    go_ret2
    exact ⟨rfl, rfl⟩
  · have d0 : decide (n < 0) = false := by simpa using h0
    have d1 : decide (256 < n) = true := by simp; omega
    go_enter Try.func23, Try.ntmps23
    go_wp2
    go_ret2
    exact ⟨rfl, rfl⟩
set_option maxRecDepth 100000 in
theorem rmake_many (s : ByteArray) (n : Nat) (w : World) (hz : 16384 < s.size) (hn : n ≤ 256) :
    Calls Try.prog 23 #[.string s, .int .i64 n] w fun e w' => e = .returned (.tuple #[.slice none 0 0, .int .i64 4]) ∧ w = w' := by
  have d0 : decide ((n : Int) < 0) = false := by simp
  have d1 : decide ((256 : Int) < (n : Int)) = false := by simp; omega
  have d2 : decide ((16384 : Int) < (s.size : Int)) = true := by simp; omega
  go_enter Try.func23, Try.ntmps23
  go_wp2
  go_ret2
  exact ⟨rfl, rfl⟩
def RMake (s : ByteArray) (n : Nat) (w : World) (e : Ending) (w' : World) : Prop := Below w.heap.size w w' ∧ ∃ A c, e = .returned (.tuple #[.slice A n c, .int .i64 0]) ∧ RdG encS w' w'.heap.size A (ksL s n)
theorem encS_one (s : ByteArray) : (encS s).oneCell' = true := rfl
set_option maxHeartbeats 2000000 in
set_option maxRecDepth 100000 in
theorem rmake_ok (s : ByteArray) (n : Nat) (w : World) (hz : s.size ≤ 16384) (hn : n ≤ 256) :
    Calls Try.prog 23 #[.string s, .int .i64 n] w (RMake s n w) := by
  obtain ⟨i0, hi, hz0, hz1, hz2⟩ := info_parts infoS
  have QI := Lib.hid hi
  have QZ0 := Lib.hid hz0
  have QZ1 := Lib.hid hz1
  have QZ2 := Lib.hid hz2
  clear hi hz0 hz1 hz2
  have d0 : decide ((n : Int) < 0) = false := by simp
  have d1 : decide ((256 : Int) < (n : Int)) = false := by simp; omega
  have d2 : decide ((16384 : Int) < (s.size : Int)) = false := by simp; omega
  have HZS := Lib.hid (kN_size s hz)
  have HN := Lib.hid hn
  clear hz hn
  go_enter Try.func23, Try.ntmps23
  go_wp2_with fail
  go_loopw [0, 6, 7] (fun sd v i wr => ∃ k : Nat, k ≤ n ∧ i = .int .i64 k ∧ sd = .string (kN s k) ∧ wr.ownsRow w.heap.size 9 1 v k ((ksL s k).map encS) ∧ Below w.heap.size w wr) (fun _ _ i _ => n - (intOf i).toNat)
  case atStart => exact ⟨0, Nat.zero_le _, rfl, rfl, World.ownsRow_nil _ _ _ _, Below.refl _ _⟩
  case round =>
    obtain ⟨k, hk, rfl, rfl, hown, hbw⟩ := hrel
    have HO := Lib.hid hown
    have hsz := hbw.size
    by_cases hlt : k < n
    · obtain ⟨a, ha⟩ : ∃ a, kN s k = a := ⟨_, rfl⟩
      obtain ⟨b, hb⟩ : ∃ b, kN s (k + 1) = b := ⟨_, rfl⟩
      have hab : keyB a = b := by rw [← ha, ← hb]; rfl
      have haz : a.size ≤ 16384 := by rw [← ha]; exact HZS.out k
      rw [ha]
      have HAB := Lib.hid hab
      have HAZ := Lib.hid haz
      have HB := Lib.hid hb
      have HBW := Lib.hid hbw
      have hN2 := HN.out
      clear ha hab haz hb hown hbw
      go_wp2_with (first
        | (go_at_call 40; (with_reducible refine (rbehind_ok a wr HAZ.out b HAB.out).mono ?_); rintro e w2 ⟨rfl, hb2⟩; have HB2 := Lib.hid hb2; have HO2 := Lib.hid (own_below HO.out hb2 (Nat.le_refl _)); have hs2 := hb2.size)
        | (at_builtin; refine wpList_append_rdg encS_one rfl (.tmp 24) (.tmp 26) 41 rfl w.heap.size 9 i0 (.string ByteArray.empty) 16 Try.underlying41 QI.out QZ0.out QZ1.out QZ2.out (by decide) rfl _ k _ rfl (own_below HO2.out (stpA (Below.refl w2.heap.size w2) (.cells #[.string b] 9)) (Nat.le_refl _)) (w2.heap.size + 1) (some ⟨w2.heap.size, 0, none⟩) 1 1 [b] rfl (RdG.new (enc := encS) w2 9 [b]) rfl (fun h => by cases h) (by have := HN.out; omega) (by rw [World.size_alloc]; omega) ?_; intro v4 w4 hown4 hgr4; have HO4 := Lib.hid hown4; have HG4 := Lib.hid hgr4; clear hown4 hgr4)
        | fail)
      have hb4 : Below w.heap.size w w4 := ((stp HBW.out HB2.out).alloc (by omega) _).grown HG4.out (by rw [World.size_alloc]; omega) (fun g hg => (HO.out.lt g hg).1)
      go_roundw
      case rel => exact ⟨k + 1, hlt, by go_num, by rw [HB.out], by rw [ksL_succ, List.map_append, HB.out]; exact HO4.out, hb4⟩
      case measure => simp [intOf]; omega
    · obtain rfl : k = n := by omega
      obtain ⟨A', c', rfl⟩ := own_form hown
      have HRD := Lib.hid (RdG.of_own hown).1
      clear hown
      go_wp2_with fail
      go_ret2
      exact ⟨hbw, A', c', rfl, HRD.out⟩
set_option maxHeartbeats 1000000 in
set_option maxRecDepth 100000 in
/-- ref.Same of two slices that read as the same texts. -/
theorem rsame_yes (A B : Option Addr) (n c d : Nat) (l : List ByteArray) (w : World) (ha : RdG encS w w.heap.size A l) (hb : RdG encS w w.heap.size B l) (hn : l.length = n) (hm : n ≤ 1000) :
    Calls Try.prog 25 #[.slice A n c, .slice B n d] w fun e w' => e = .returned (.bool true) ∧ Below w.heap.size w w' := by
  have HA := Lib.hid ha
  have HB := Lib.hid hb
  have HN := Lib.hid hn
  have HM := Lib.hid hm
  clear ha hb hn hm
  go_enter Try.func25, Try.ntmps25
  go_wp2_with fail
  go_loopw [5] (fun i wr => ∃ k : Nat, k ≤ n ∧ i = .int .i64 k ∧ Below w.heap.size w wr) (fun i _ => n - (intOf i).toNat)
  case atStart => exact ⟨0, Nat.zero_le _, rfl, Below.refl _ _⟩
  case round =>
    obtain ⟨k, hk, rfl, hbw⟩ := hrel
    by_cases hlt : k < n
    · obtain ⟨ga, oa, rfl, hga, hca⟩ := HA.out (by rw [HN.out]; omega)
      obtain ⟨gb, ob, rfl, hgb, hcb⟩ := HB.out (by rw [HN.out]; omega)
      have k1 := (hbw.cell (p := ⟨ga, oa + k, none⟩) hga).trans (hca k (by rw [HN.out]; exact hlt))
      have k2 := (hbw.cell (p := ⟨gb, ob + k, none⟩) hgb).trans (hcb k (by rw [HN.out]; exact hlt))
      obtain ⟨x, hx⟩ : ∃ x, l[k]'(by rw [HN.out]; exact hlt) = x := ⟨_, rfl⟩
      rw [hx] at k1 k2
      have k1' : wr.cell? ⟨ga, oa + k, none⟩ = some (.string x) := k1
      have k2' : wr.cell? ⟨gb, ob + k, none⟩ = some (.string x) := k2
      have bk : (0 : Int) ≤ (k : Int) ∧ (k : Int) < (n : Int) := by omega
      have HBW := Lib.hid hbw
      have hMM := HM.out
      clear hca hcb hx k1 k2 hbw
      go_wp2_with fail
      go_quiet (fail)
      go_wp2_with fail
      go_roundw
      case rel => exact ⟨k + 1, hlt, by go_num, below_dn HBW.out _⟩
      case measure => simp [intOf]; omega
    · obtain rfl : k = n := by omega
      go_wp2_with fail
      go_ret
      exact ⟨rfl, hbw⟩
end Hx
end Go.Proofs.Ytmjcmlaeajglmaa
