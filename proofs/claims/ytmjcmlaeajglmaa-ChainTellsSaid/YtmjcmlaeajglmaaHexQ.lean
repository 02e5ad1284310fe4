/-
  Contracts of tidewaiterref01.Is, Put, where the texts on digests lie beside them.
-/
import Derived.Test.YtmjcmlaeajglmaaChnH
import Derived.Deep.RegionHeld3
import Derived.Deep.AppendLies
namespace Go.Proofs.Ytmjcmlaeajglmaa
open Go.RowKit
namespace Hx
set_option maxHeartbeats 1000000 in
set_option maxRecDepth 100000 in
theorem rdigit_any (c : Int) (w : World) (h0 : 0 ≤ c) (h1 : c ≤ 255) :
    Calls Try.prog 64 #[.int .u8 c] w fun e w' => e = .returned (.tuple #[.int .i64 (nm c), .bool (isD c)]) ∧ w = w' := by
  by_cases a : 48 ≤ c
  · by_cases b : c ≤ 57
    · have hq : nm c = c - 48 ∧ isD c = true := by unfold nm isD; rw [if_pos ⟨a, b⟩]; exact ⟨rfl, by simp; omega⟩
      have HQ := Lib.hid hq
      clear hq
      go_enter Try.func64, Try.ntmps64
      go_wp2
      go_ret2
      exact ⟨ret_ib HQ.out.1.symm HQ.out.2.symm, rfl⟩
    · by_cases d : 97 ≤ c
      · by_cases e : c ≤ 102
        · have hq : nm c = c - 87 ∧ isD c = true := by unfold nm isD; rw [if_neg (by omega), if_pos ⟨d, e⟩]; exact ⟨rfl, by simp; omega⟩
          have HQ := Lib.hid hq
          clear hq
          go_enter Try.func64, Try.ntmps64
          go_wp2
          go_ret2
          exact ⟨ret_ib HQ.out.1.symm HQ.out.2.symm, rfl⟩
        · have hq : nm c = 0 ∧ isD c = false := by unfold nm isD; rw [if_neg (by omega), if_neg (by omega)]; exact ⟨rfl, by simp; omega⟩
          have HQ := Lib.hid hq
          clear hq
          go_enter Try.func64, Try.ntmps64
          go_wp2
          go_ret2
          exact ⟨ret_ib HQ.out.1.symm HQ.out.2.symm, rfl⟩
      · have hq : nm c = 0 ∧ isD c = false := by unfold nm isD; rw [if_neg (by omega), if_neg (by omega)]; exact ⟨rfl, by simp; omega⟩
        have HQ := Lib.hid hq
        clear hq
        go_enter Try.func64, Try.ntmps64
        go_wp2
        go_ret2
        exact ⟨ret_ib HQ.out.1.symm HQ.out.2.symm, rfl⟩
  · have hq : nm c = 0 ∧ isD c = false := by unfold nm isD; rw [if_neg (by omega), if_neg (by omega)]; exact ⟨rfl, by simp; omega⟩
    have HQ := Lib.hid hq
    clear hq
    go_enter Try.func64, Try.ntmps64
    go_wp2
    go_ret2
    exact ⟨ret_ib HQ.out.1.symm HQ.out.2.symm, rfl⟩

theorem rdigit_u8 (c : UInt8) (w : World) :
    Calls Try.prog 64 #[.int .u8 c.toNat] w fun e w' => e = .returned (.tuple #[.int .i64 (nm c.toNat), .bool (isD c.toNat)]) ∧ w = w' :=
  rdigit_any c.toNat w (by omega) (by have := c.toNat_lt; omega)
theorem beq_int (a b : Int) : (a == b) = decide (a = b) := by rw [Bool.eq_iff_iff]; simp
theorem ret_u8 {a b : Int} (h : a = b) : Ending.returned (.int .u8 a) = .returned (.int .u8 b) := by rw [h]
theorem hx_int (n : Nat) (h : n < 16) : ((hx n).toNat : Int) = if n < 10 then 48 + (n : Int) else 87 + (n : Int) := by
  unfold hx
  split
  · rw [Nat.toUInt8, UInt8.toNat_ofNat']; omega
  · rw [Nat.toUInt8, UInt8.toNat_ofNat']; omega
set_option maxRecDepth 100000 in
theorem rof1_any (n : Nat) (w : World) (h : n < 16) :
    Calls Try.prog 63 #[.int .i64 n] w fun e w' => e = .returned (.int .u8 (hx n).toNat) ∧ w' = w := by
  have hq := hx_int n h
  by_cases a : n < 10
  · rw [if_pos a] at hq
    have HQ := Lib.hid hq
    clear hq
    have e1 : IntKind.u8.wrap (48 + (n : Int)) = 48 + (n : Int) := IntWalk.u8_in _ (by omega)
    go_enter Try.func63, Try.ntmps63
    go_wp2
    go_ret
    exact ⟨ret_u8 HQ.out.symm, rfl⟩
  · rw [if_neg a] at hq
    have HQ := Lib.hid hq
    clear hq
    have e1 : IntKind.u8.wrap (87 + (n : Int)) = 87 + (n : Int) := IntWalk.u8_in _ (by omega)
    go_enter Try.func63, Try.ntmps63
    go_wp2
    go_ret
    exact ⟨ret_u8 HQ.out.symm, rfl⟩

theorem rof1_div (c : UInt8) (w : World) : Calls Try.prog 63 #[.int .i64 ((c.toNat : Int) / 16)] w fun e w' => e = .returned (.int .u8 (hx (c.toNat / 16)).toNat) ∧ w' = w := by
  have hc := c.toNat_lt
  have := rof1_any (c.toNat / 16) w (by omega)
  rw [Int.natCast_ediv] at this
  exact this
theorem rof1_mod (c : UInt8) (w : World) : Calls Try.prog 63 #[.int .i64 ((c.toNat : Int) % 16)] w fun e w' => e = .returned (.int .u8 (hx (c.toNat % 16)).toNat) ∧ w' = w := by
  have := rof1_any (c.toNat % 16) w (by omega)
  rw [Int.natCast_emod] at this
  exact this

set_option maxHeartbeats 2000000 in
set_option maxRecDepth 100000 in
theorem rhput_any (A : Option Addr) (n cp : Nat) (l : List UInt8) (w : World) (hr : RdA w w.heap.size A l) (hn : l.length = n) (hm : n ≤ 1000000) :
    Calls Try.prog 53 #[.slice A n cp] w fun e w' => e = .returned (.string ⟨(putL l).toArray⟩) ∧ Below w.heap.size w w' := by
  obtain ⟨i0, hi, hz0, hz1, hz2⟩ := info_parts info5
  have HI := Lib.hid hi
  have HZ0 := Lib.hid hz0
  have HZ1 := Lib.hid hz1
  have HZ2 := Lib.hid hz2
  clear hi hz0 hz1 hz2
  have HN := Lib.hid hn
  have HR := Lib.hid hr
  clear hn hr
  go_enter Try.func53, Try.ntmps53
  go_wp2
  go_loopw [3, 4] (fun v i wr => ∃ k : Nat, k ≤ n ∧ i = .int .i64 k ∧ wr.ownsRow w.heap.size 5 1 v (2 * k) (Lib.byteCells (putL (l.take k))) ∧ Below w.heap.size w wr) (fun _ i _ => n - (intOf i).toNat)
  case atStart => exact ⟨0, Nat.zero_le _, rfl, World.ownsRow_nil _ _ _ _, Below.refl _ _⟩
  case round =>
    obtain ⟨k, hk, rfl, hown, hbw⟩ := hrel
    have HO := Lib.hid hown
    by_cases hlt : k < n
    · obtain ⟨b, off, rfl, hbB, hc⟩ := HR.out (by rw [HN.out]; omega)
      have hk2 : k < l.length := by rw [HN.out]; exact hlt
      have hcell := (hbw.cell (p := ⟨b, off + k, none⟩) hbB).trans (hc k hk2)
      have hsz := hbw.size
      have hpt := Lib.hid (putL_take l k hk2)
      have hcl := (l[k]'hk2).toNat_lt
      clear hown hc
      have q1 : IntKind.i64.wrap ((l[k]'hk2).toNat : Int) = ((l[k]'hk2).toNat : Int) := IntWalk.i64_in _ (by omega)
      have q2 : ((l[k]'hk2).toNat : Int).tdiv 16 = ((l[k]'hk2).toNat : Int) / 16 := Int.tdiv_eq_ediv_of_nonneg (by omega)
      have q3 : ((l[k]'hk2).toNat : Int).tmod 16 = ((l[k]'hk2).toNat : Int) % 16 := Int.tmod_eq_emod_of_nonneg (by omega)
      have q4 : IntKind.i64.wrap (((l[k]'hk2).toNat : Int) / 16) = ((l[k]'hk2).toNat : Int) / 16 := IntWalk.i64_in _ (by omega)
      have q5 : IntKind.i64.wrap (((l[k]'hk2).toNat : Int) % 16) = ((l[k]'hk2).toNat : Int) % 16 := IntWalk.i64_in _ (by omega)
      have hne : some b ≠ u3.ownBlock := fun e => by have := (HO.out.lt b e.symm).1; omega
      have hbs : b < wr.heap.size := by omega
      go_wp2_with fail
      go_region_held3 (fun w' => w'.cell? ⟨b, off + k, none⟩ = some (.int .u8 (l[k]'hk2).toNat)) (first | go_keep | (rw [hgrow.cell_far _ (by simp; omega) hne]; assumption)) ((first
        | (go_at_call 63; (with_reducible refine (rof1_div _ _).mono ?_); rintro e w' ⟨rfl, rfl⟩)
        | (go_at_call 63; (with_reducible refine (rof1_mod _ _).mono ?_); rintro e w' ⟨rfl, rfl⟩)
        | (refine step_append_lies _ (by rfl) _ _ _ (by rfl) w.heap.size 5 i0 _ 1 1 Try.underlying22 HI.out HZ0.out HZ1.out HZ2.out rfl (by decide) _ _ _ (by rfl) ((HO.out.alloc _).drew) ⟨wr.heap.size, 0, none⟩ 2 2 (Lib.byteCells (two (l[k]'hk2))) (by rfl) (by rfl) (cell_two_new wr _ _ _) (bytes_one _) (by decide) (by unfold maxLen; omega) (by omega) (by simp; omega) (wr.heap.size + 1) (by simp) ?_; intro gg cap w1 hown1 hgrow hat hlt1)))
      have HO3 := Lib.hid hown1
      have hbw3 : Below w.heap.size w w1 := ((hbw.alloc hbw.size _).drew).grown hgrow (by simp; omega) (fun g hg => (HO.out.lt g hg).1)
      clear hown1 hgrow hat
      go_wp2
      go_roundw
      case rel => exact ⟨k + 1, by omega, by go_num, by rw [hpt.out, Lib.byteCells_append]; exact HO3.out, hbw3⟩
      case measure => simp [intOf]; omega
    · obtain rfl : k = n := by omega
      obtain ⟨A', c', rfl⟩ := own_form hown
      obtain ⟨hrd, hl2⟩ := RdA.of_own hown
      have hcv := fun src hs dst hd => conv_str (P := Try.prog) (src := src) (dst := dst) (c := c') hrd hl2 hs Try.underlying5 hd
      have hcv2 := hcv 22 Try.underlying22 9 Try.underlying9
      clear hown hcv hl2 hrd
      go_wp2
      go_ret
      exact ⟨ret_s (by rw [← HN.out, List.take_length]), hbw⟩

set_option maxHeartbeats 2000000 in
set_option maxRecDepth 100000 in
theorem ris_any (s : ByteArray) (n : Int) (w : World) (hm : s.size ≤ 1000000) :
    Calls Try.prog 54 #[.string s, .int .i64 n] w fun e w' => e = .returned (.bool (decide ((s.size : Int) = n) && allD s.data.toList)) ∧ w = w' := by
  go_enter Try.func54, Try.ntmps54
  go_wp2
  go_loop [5] (fun i => ∃ k : Nat, k ≤ s.size ∧ i = .int .i64 k ∧ allD (s.data.toList.take k) = true) (fun i => s.size - (intOf i).toNat)
  case atStart => exact ⟨0, Nat.zero_le _, rfl, rfl⟩
  case round =>
    obtain ⟨k, hk, rfl, hall⟩ := hrel
    have HA := Lib.hid hall
    clear hall
    by_cases hlt : k < s.size
    · have hc := (s[k]'hlt).toNat_lt
      cases hdg : isd (s[k]'hlt)
      · have HG := Lib.hid hdg
        have e := Lib.hid (not_all s k hlt hdg)
        clear hdg
        go_wp2_with (go_at_call 64; refine (rdigit_any _ _ (by omega) (by omega)).mono ?_; rintro e w' ⟨rfl, rfl⟩; rw [show isD ((s[k]'hlt).toNat : Int) = false from HG.out])
        go_ret
        exact ⟨ret_b (by rw [e.out]; simp), rfl⟩
      · have HG := Lib.hid hdg
        clear hdg
        go_wp2_with (go_at_call 64; refine (rdigit_any _ _ (by omega) (by omega)).mono ?_; rintro e w' ⟨rfl, rfl⟩; rw [show isD ((s[k]'hlt).toNat : Int) = true from HG.out])
        go_round
        case rel => exact ⟨k + 1, hlt, by go_num, take_all s k hlt HA.out HG.out⟩
        case measure => simp [intOf]; omega
    · obtain rfl : k = s.size := by omega
      have e := HA.out
      rw [List.take_of_length_le (by simp)] at e
      have E := Lib.hid e
      clear e HA hlt
      go_wp2
      go_ret
      exact ⟨ret_b (by rw [E.out, beq_int, Bool.and_true]), rfl⟩

theorem ris_b (s : ByteArray) (n : Int) (b : Bool) (w : World) (hm : s.size ≤ 1000000) (h : (decide ((s.size : Int) = n) && allD s.data.toList) = b) :
    Calls Try.prog 54 #[.string s, .int .i64 n] w fun e w' => e = .returned (.bool b) ∧ w = w' := by
  have := ris_any s n w hm
  rw [h] at this
  exact this

end Hx
end Go.Proofs.Ytmjcmlaeajglmaa
