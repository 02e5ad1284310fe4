/-
  Contracts of the document's own answers (package tidewaiterref01).
-/
import Derived.Test.YtmgdhkgkjimmoaaHexG
import Derived.Deep.RegionHeld3
import Derived.Deep.AppendLies
namespace Go.Proofs.Ytmgdhkgkjimmoaa
open Go.RowKit
namespace Hx

set_option maxHeartbeats 1000000 in
set_option maxRecDepth 100000 in
theorem rdigit_any (c : Int) (w : World) (h0 : 0 ≤ c) (h1 : c ≤ 255) :
    Calls Try.prog 13 #[.int .u8 c] w fun e w' => e = .returned (.tuple #[.int .i64 (nm c), .bool (isD c)]) ∧ w = w' := by
  by_cases a : 48 ≤ c
  · by_cases b : c ≤ 57
    · have hq : nm c = c - 48 ∧ isD c = true := by unfold nm isD; rw [if_pos ⟨a, b⟩]; exact ⟨rfl, by simp; omega⟩
      have HQ := Lib.hid hq
      clear hq
      go_enter Try.func13, Try.ntmps13
      go_wp2
      go_ret2
      exact ⟨ret_ib HQ.out.1.symm HQ.out.2.symm, rfl⟩
    · by_cases d : 97 ≤ c
      · by_cases e : c ≤ 102
        · have hq : nm c = c - 87 ∧ isD c = true := by unfold nm isD; rw [if_neg (by omega), if_pos ⟨d, e⟩]; exact ⟨rfl, by simp; omega⟩
          have HQ := Lib.hid hq
          clear hq
          go_enter Try.func13, Try.ntmps13
          go_wp2
          go_ret2
          exact ⟨ret_ib HQ.out.1.symm HQ.out.2.symm, rfl⟩
        · have hq : nm c = 0 ∧ isD c = false := by unfold nm isD; rw [if_neg (by omega), if_neg (by omega)]; exact ⟨rfl, by simp; omega⟩
          have HQ := Lib.hid hq
          clear hq
          go_enter Try.func13, Try.ntmps13
          go_wp2
          go_ret2
          exact ⟨ret_ib HQ.out.1.symm HQ.out.2.symm, rfl⟩
      · have hq : nm c = 0 ∧ isD c = false := by unfold nm isD; rw [if_neg (by omega), if_neg (by omega)]; exact ⟨rfl, by simp; omega⟩
        have HQ := Lib.hid hq
        clear hq
        go_enter Try.func13, Try.ntmps13
        go_wp2
        go_ret2
        exact ⟨ret_ib HQ.out.1.symm HQ.out.2.symm, rfl⟩
  · have hq : nm c = 0 ∧ isD c = false := by unfold nm isD; rw [if_neg (by omega), if_neg (by omega)]; exact ⟨rfl, by simp; omega⟩
    have HQ := Lib.hid hq
    clear hq
    go_enter Try.func13, Try.ntmps13
    go_wp2
    go_ret2
    exact ⟨ret_ib HQ.out.1.symm HQ.out.2.symm, rfl⟩

theorem rdigit_u8 (c : UInt8) (w : World) :
    Calls Try.prog 13 #[.int .u8 c.toNat] w fun e w' => e = .returned (.tuple #[.int .i64 (nm c.toNat), .bool (isD c.toNat)]) ∧ w = w' :=
  rdigit_any c.toNat w (by omega) (by have := c.toNat_lt; omega)
theorem beq_int (a b : Int) : (a == b) = decide (a = b) := by rw [Bool.eq_iff_iff]; simp
theorem ret_u8 {a b : Int} (h : a = b) : Ending.returned (.int .u8 a) = .returned (.int .u8 b) := by rw [h]
theorem hx_int (n : Nat) (h : n < 16) : ((hx n).toNat : Int) = if n < 10 then 48 + (n : Int) else 87 + (n : Int) := by
  unfold hx
  split
  · rw [Nat.toUInt8, UInt8.toNat_ofNat']; omega
  · rw [Nat.toUInt8, UInt8.toNat_ofNat']; omega
set_option maxRecDepth 100000 in
theorem of_any (n : Nat) (w : World) (h : n < 16) :
    Calls Try.prog 19 #[.int .i64 n] w fun e w' => e = .returned (.int .u8 (hx n).toNat) ∧ w' = w := by
  have hq := hx_int n h
  by_cases a : n < 10
  · rw [if_pos a] at hq
    have HQ := Lib.hid hq
    clear hq
    have e1 : IntKind.u8.wrap (48 + (n : Int)) = 48 + (n : Int) := IntWalk.u8_in _ (by omega)
    go_enter Try.func19, Try.ntmps19
    go_wp2
    go_ret
    exact ⟨ret_u8 HQ.out.symm, rfl⟩
  · rw [if_neg a] at hq
    have HQ := Lib.hid hq
    clear hq
    have e1 : IntKind.u8.wrap (87 + (n : Int)) = 87 + (n : Int) := IntWalk.u8_in _ (by omega)
    go_enter Try.func19, Try.ntmps19
    go_wp2
    go_ret
    exact ⟨ret_u8 HQ.out.symm, rfl⟩

theorem of_div (c : UInt8) (w : World) : Calls Try.prog 19 #[.int .i64 ((c.toNat : Int) / 16)] w fun e w' => e = .returned (.int .u8 (hx (c.toNat / 16)).toNat) ∧ w' = w := by
  have hc := c.toNat_lt
  have := of_any (c.toNat / 16) w (by omega)
  rw [Int.natCast_ediv] at this
  exact this
theorem of_mod (c : UInt8) (w : World) : Calls Try.prog 19 #[.int .i64 ((c.toNat : Int) % 16)] w fun e w' => e = .returned (.int .u8 (hx (c.toNat % 16)).toNat) ∧ w' = w := by
  have := of_any (c.toNat % 16) w (by omega)
  rw [Int.natCast_emod] at this
  exact this

set_option maxHeartbeats 2000000 in
set_option maxRecDepth 100000 in
theorem rput_any (A : Option Addr) (n cp : Nat) (l : List UInt8) (w : World) (hr : RdA w w.heap.size A l) (hn : l.length = n) (hm : n ≤ 1000000) :
    Calls Try.prog 15 #[.slice A n cp] w fun e w' => e = .returned (.string ⟨(putL l).toArray⟩) ∧ Below w.heap.size w w' := by
  obtain ⟨i0, hi, hz0, hz1, hz2⟩ := info_parts info5
  have HI := Lib.hid hi
  have HZ0 := Lib.hid hz0
  have HZ1 := Lib.hid hz1
  have HZ2 := Lib.hid hz2
  clear hi hz0 hz1 hz2
  have HN := Lib.hid hn
  have HR := Lib.hid hr
  clear hn hr
  go_enter Try.func15, Try.ntmps15
  go_wp2
  go_loopw [3, 4] (fun v i wr => ∃ k : Nat, k ≤ n ∧ i = .int .i64 k ∧ wr.ownsRow w.heap.size 5 1 v (2 * k) (Lib.byteCells (putL (l.take k))) ∧ Below w.heap.size w wr) (fun _ i _ => n - (intOf i).toNat)
  case atStart => exact ⟨0, Nat.zero_le _, rfl, World.ownsRow_nil _ _ _ _, Below.refl _ _⟩
  case round =>
    obtain ⟨k, hk, rfl, hown, hbw⟩ := hrel
    have HO := Lib.hid hown
    by_cases hlt : k < n
    · obtain ⟨b, off, rfl, hbB, hc⟩ := HR.out (by rw [HN.out]; omega)
      have hk2 : k < l.length := by rw [HN.out]; exact hlt
      have hcell := (hbw.cell (p := ⟨b, off + k, none⟩) hbB).trans (hc k hk2)
      have hsz := hbw.size
      have hpt := Lib.hid (putL_take l k hk2)
      have hcl := (l[k]'hk2).toNat_lt
      clear hown hc
      have q1 : IntKind.i64.wrap ((l[k]'hk2).toNat : Int) = ((l[k]'hk2).toNat : Int) := IntWalk.i64_in _ (by omega)
      have q2 : ((l[k]'hk2).toNat : Int).tdiv 16 = ((l[k]'hk2).toNat : Int) / 16 := Int.tdiv_eq_ediv_of_nonneg (by omega)
      have q3 : ((l[k]'hk2).toNat : Int).tmod 16 = ((l[k]'hk2).toNat : Int) % 16 := Int.tmod_eq_emod_of_nonneg (by omega)
      have q4 : IntKind.i64.wrap (((l[k]'hk2).toNat : Int) / 16) = ((l[k]'hk2).toNat : Int) / 16 := IntWalk.i64_in _ (by omega)
      have q5 : IntKind.i64.wrap (((l[k]'hk2).toNat : Int) % 16) = ((l[k]'hk2).toNat : Int) % 16 := IntWalk.i64_in _ (by omega)
      have hne : some b ≠ u3.ownBlock := fun e => by have := (HO.out.lt b e.symm).1; omega
      have hbs : b < wr.heap.size := by omega
      go_wp2_with fail
      go_region_held3 (fun w' => w'.cell? ⟨b, off + k, none⟩ = some (.int .u8 (l[k]'hk2).toNat)) (first | go_keep | (rw [hgrow.cell_far _ (by simp; omega) hne]; assumption)) ((first
        | (go_at_call 19; (with_reducible refine (of_div _ _).mono ?_); rintro e w' ⟨rfl, rfl⟩)
        | (go_at_call 19; (with_reducible refine (of_mod _ _).mono ?_); rintro e w' ⟨rfl, rfl⟩)
        | (refine step_append_lies _ (by rfl) _ _ _ (by rfl) w.heap.size 5 i0 _ 1 1 Try.underlying22 HI.out HZ0.out HZ1.out HZ2.out rfl (by decide) _ _ _ (by rfl) ((HO.out.alloc _).drew) ⟨wr.heap.size, 0, none⟩ 2 2 (Lib.byteCells (two (l[k]'hk2))) (by rfl) (by rfl) (cell_two_new wr _ _ _) (bytes_one _) (by decide) (by unfold maxLen; omega) (by omega) (by simp; omega) (wr.heap.size + 1) (by simp) ?_; intro gg cap w1 hown1 hgrow hat hlt1)))
      have HO3 := Lib.hid hown1
      have hbw3 : Below w.heap.size w w1 := ((hbw.alloc hbw.size _).drew).grown hgrow (by simp; omega) (fun g hg => (HO.out.lt g hg).1)
      clear hown1 hgrow hat
      go_wp2
      go_roundw
      case rel => exact ⟨k + 1, by omega, by go_num, by rw [hpt.out, Lib.byteCells_append]; exact HO3.out, hbw3⟩
      case measure => simp [intOf]; omega
    · obtain rfl : k = n := by omega
      obtain ⟨A', c', rfl⟩ := own_form hown
      obtain ⟨hrd, hl2⟩ := RdA.of_own hown
      have hcv := fun src hs dst hd => conv_str (P := Try.prog) (src := src) (dst := dst) (c := c') hrd hl2 hs Try.underlying5 hd
      have hcv2 := hcv 22 Try.underlying22 9 Try.underlying9
      clear hown hcv hl2 hrd
      go_wp2
      go_ret
      exact ⟨ret_s (by rw [← HN.out, List.take_length]), hbw⟩

set_option maxHeartbeats 2000000 in
set_option maxRecDepth 100000 in
theorem ris_any (s : ByteArray) (n : Int) (w : World) (hm : s.size ≤ 1000000) :
    Calls Try.prog 16 #[.string s, .int .i64 n] w fun e w' => e = .returned (.bool (decide ((s.size : Int) = n) && allD s.data.toList)) ∧ w = w' := by
  go_enter Try.func16, Try.ntmps16
  go_wp2
  go_loop [5] (fun i => ∃ k : Nat, k ≤ s.size ∧ i = .int .i64 k ∧ allD (s.data.toList.take k) = true) (fun i => s.size - (intOf i).toNat)
  case atStart => exact ⟨0, Nat.zero_le _, rfl, rfl⟩
  case round =>
    obtain ⟨k, hk, rfl, hall⟩ := hrel
    have HA := Lib.hid hall
    clear hall
    by_cases hlt : k < s.size
    · have hc := (s[k]'hlt).toNat_lt
      cases hdg : dig (s[k]'hlt)
      · have HG := Lib.hid hdg
        have e := Lib.hid (not_all s k hlt hdg)
        clear hdg
        go_wp2_with (go_at_call 13; refine (rdigit_any _ _ (by omega) (by omega)).mono ?_; rintro e w' ⟨rfl, rfl⟩; rw [show isD ((s[k]'hlt).toNat : Int) = false from HG.out])
        go_ret
        exact ⟨ret_b (by rw [e.out]; simp), rfl⟩
      · have HG := Lib.hid hdg
        clear hdg
        go_wp2_with (go_at_call 13; refine (rdigit_any _ _ (by omega) (by omega)).mono ?_; rintro e w' ⟨rfl, rfl⟩; rw [show isD ((s[k]'hlt).toNat : Int) = true from HG.out])
        go_round
        case rel => exact ⟨k + 1, hlt, by go_num, take_all s k hlt HA.out HG.out⟩
        case measure => simp [intOf]; omega
    · obtain rfl : k = s.size := by omega
      have e := HA.out
      rw [List.take_of_length_le (by simp)] at e
      have E := Lib.hid e
      clear e HA hlt
      go_wp2
      go_ret
      exact ⟨ret_b (by rw [E.out, beq_int, Bool.and_true]), rfl⟩

theorem ris_b (s : ByteArray) (n : Int) (b : Bool) (w : World) (hm : s.size ≤ 1000000) (h : (decide ((s.size : Int) = n) && allD s.data.toList) = b) :
    Calls Try.prog 16 #[.string s, .int .i64 n] w fun e w' => e = .returned (.bool b) ∧ w = w' := by
  have := ris_any s n w hm
  rw [h] at this
  exact this

set_option maxRecDepth 100000 in
theorem rget_many (s : ByteArray) (w : World) (h : 16384 < s.size) :
    Calls Try.prog 14 #[.string s] w fun e w' => e = .returned (.tuple #[.slice none 0 0, .int .i64 4]) ∧ w = w' := by
  have h' : (16384 : Int) < (s.size : Int) := by omega
  go_enter Try.func14, Try.ntmps14
  go_wp2
  go_ret2
  exact ⟨rfl, rfl⟩

set_option maxHeartbeats 2000000 in
set_option maxRecDepth 100000 in
theorem rget_bad (s : ByteArray) (w : World) (hm : s.size ≤ 16384) (h : okS s = false) :
    Calls Try.prog 14 #[.string s] w fun e w' => e = .returned (.tuple #[.slice none 0 0, .int .i64 10]) ∧ w = w' := by
  have hm1 : decide ((16384 : Int) < (s.size : Int)) = false := by simp; omega
  rcases not_ok s h with hodd | ⟨hev, hna⟩
  · have to : ((s.size : Int) % 2 == 1) = true := by simp; omega
    clear h
    go_enter Try.func14, Try.ntmps14
    go_wp2
    go_ret2
    exact ⟨rfl, rfl⟩
  · have to : ((s.size : Int) % 2 == 1) = false := by simp; omega
    have HJ : Hid (∀ n : Int, (decide ((s.size : Int) = n) && allD s.data.toList) = false) := by
      intro n
      rw [hna, Bool.and_false]
    clear h hna
    go_enter Try.func14, Try.ntmps14
    go_wp2_with (go_at_call 16; refine (ris_b s _ false _ (by omega) (HJ.out _)).mono ?_; rintro e w' ⟨rfl, rfl⟩)
    go_ret2
    exact ⟨rfl, rfl⟩

set_option maxHeartbeats 2000000 in
set_option maxRecDepth 100000 in
theorem rget_ok (s : ByteArray) (w : World) (hm : s.size ≤ 16384) (h : okS s = true) : Calls Try.prog 14 #[.string s] w (GetOk s w) := by
  have hm1 : decide ((16384 : Int) < (s.size : Int)) = false := by simp; omega
  have h2 := h
  unfold okS at h2
  simp only [Bool.and_eq_true, decide_eq_true_eq] at h2
  obtain ⟨hev, hall⟩ := h2
  have to : ((s.size : Int) % 2 == 1) = false := by simp; omega
  have HJ : Hid (∀ n : Int, n = (s.size : Int) → (decide ((s.size : Int) = n) && allD s.data.toList) = true) := by
    intro n hn
    subst hn
    rw [hall]
    simp
  clear h hall
  obtain ⟨i0, hi, hz0, hz1, hz2⟩ := info_parts info5
  have HI := Lib.hid hi
  have HZ0 := Lib.hid hz0
  have HZ1 := Lib.hid hz1
  have HZ2 := Lib.hid hz2
  clear hi hz0 hz1 hz2
  go_enter Try.func14, Try.ntmps14
  go_wp2_with (go_at_call 16; refine (ris_b s _ true _ (by omega) (HJ.out _ rfl)).mono ?_; rintro e w' ⟨rfl, rfl⟩)
  go_loopw [4, 5] (fun v i wr => ∃ k : Nat, 2 * k ≤ s.size ∧ i = .int .i64 (2 * (k : Int)) ∧ wr.ownsRow w.heap.size 5 1 v k (Lib.byteCells (getL s.data.toList k)) ∧ Below w.heap.size w wr) (fun _ i _ => s.size - (intOf i).toNat)
  case atStart => exact ⟨0, Nat.zero_le _, rfl, World.ownsRow_nil _ _ _ _, Below.refl _ _⟩
  case round =>
    obtain ⟨k, hk, rfl, hown, hbw⟩ := hrel
    have HO := Lib.hid hown
    by_cases hlt : 2 * k < s.size
    · have hlt2 : 2 * k + 1 < s.size := by omega
      have hbt := bt_int s.data.toList k
      have e0 : s.data.toList.getD (2 * k) 0 = s[2 * k]'hlt := by rw [List.getD_eq_getElem?_getD, List.getElem?_eq_getElem (by simpa using hlt)]; rfl
      have e1 : s.data.toList.getD (2 * k + 1) 0 = s[2 * k + 1]'hlt2 := by rw [List.getD_eq_getElem?_getD, List.getElem?_eq_getElem (by simpa using hlt2)]; rfl
      rw [e0, e1] at hbt
      have b0 := nm_bd (s[2 * k]'hlt).toNat
      have b1 := nm_bd (s[2 * k + 1]'hlt2).toNat
      have e2 : IntKind.u8.wrap (16 * nm (s[2 * k]'hlt).toNat + nm (s[2 * k + 1]'hlt2).toNat) = ((bt s.data.toList k).toNat : Int) := by rw [hbt]; exact IntWalk.u8_in _ (by omega)
      clear hown hbt e0 e1
      have hsz := hbw.size
      go_wp2_with (first
        | (go_at_call 13; (with_reducible refine (rdigit_u8 _ _).mono ?_); rintro e w' ⟨rfl, rfl⟩)
        | (at_builtin; refine wpList_append_own _ rfl _ _ 22 rfl w.heap.size 5 i0 (.int .u8 0) 1 1 Try.underlying22 HI.out HZ0.out HZ1.out HZ2.out rfl (by decide) _ _ _ rfl (HO.out.alloc _) ⟨wr.heap.size, 0, none⟩ 1 1 (Lib.byteCells [bt s.data.toList k]) rfl rfl ?c1 ?c2 ?c3 ?c4 ?c5 ?_)
        | fail)
      case c1 =>
        intro j u hj
        have := cell_one_new wr (.int .u8 (bt s.data.toList k).toNat) 5 j u hj
        simpa using this
      case c2 => exact bytes_one _
      case c3 => unfold maxLen; omega
      case c4 => omega
      case c5 => simp; omega
      · intro v3 w3 hown3 hgr3 _
        have HO3 := Lib.hid hown3
        have hbw3 : Below w.heap.size w w3 := (hbw.alloc hbw.size _).grown hgr3 (by simp; omega) (fun g hg => (HO.out.lt g hg).1)
        clear hown3 hgr3
        go_wp2
        go_roundw
        case rel => exact ⟨k + 1, by omega, by go_num, by rw [getL_succ, Lib.byteCells_append]; exact HO3.out, hbw3⟩
        case measure => simp [intOf]; omega
    · obtain rfl : k = s.size / 2 := by omega
      have hge : ¬ (2 * ((s.size / 2 : Nat) : Int) < (s.size : Int)) := by omega
      obtain ⟨A', c', rfl⟩ := own_form hown
      have HRD := Lib.hid (RdA.of_own hown)
      clear hown
      go_wp2
      go_ret2
      exact ⟨hbw, A', c', rfl, HRD.out.1⟩

/-- What Get answers: the bytes, and the error's number. -/
def gotL (s : ByteArray) : List UInt8 := if 16384 < s.size then [] else if okS s = true then getL s.data.toList (s.size / 2) else []
def gotE (s : ByteArray) : Int := if 16384 < s.size then 4 else if okS s = true then 0 else 10
def isB (s : ByteArray) (n : Int) : Bool := decide ((s.size : Int) = n) && allD s.data.toList
theorem own_zero {w : World} {base : Nat} {e : TypeId} {v : Value} {a : Nat} {x : List UInt8} (h : w.ownsRow base e 1 v (0 + a) ([] ++ Lib.byteCells x)) : w.ownsRow base e 1 v a (Lib.byteCells x) := by
  simpa using h
end Hx
end Go.Proofs.Ytmgdhkgkjimmoaa
