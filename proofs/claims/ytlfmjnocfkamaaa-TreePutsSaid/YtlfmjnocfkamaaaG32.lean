/-
  Texts of one seat, put together: TreI, TreX.
-/
import Derived.Test.YtlfmjnocfkamaaaG31
import Derived.Test.YtlfmjnocfkamaaaG23
namespace Go.Proofs.Ytlfmjnocfkamaaa
open Go.RowKit
namespace Hx
open Lx Tr Tx Nmb Es
set_option linter.unusedVariables false
def bhQ (v : List Nd) : Bool := bhZ v 12 0 == (v.length : Int)
theorem bhQ_eq {v : List Nd} (h : 0 < v.length) : bhQ v = decide (restD 12 v = some []) := by
  unfold bhQ bhZ
  rw [List.drop_zero]
  cases hr : restD 12 v with
  | none => rw [Bool.eq_iff_iff]; simp <;> omega
  | some r =>
    have hl := restD_len hr
    rw [Bool.eq_iff_iff]
    simp
    constructor
    · intro h; exact List.eq_nil_of_length_eq_zero (by omega)
    · intro h; rw [h]; simp
set_option maxHeartbeats 8000000 in
set_option maxRecDepth 100000 in
theorem rmay_none (A : Option Addr) (c : Nat) (w : World) : Calls Try.prog 29 #[.slice A 0 c] w fun e w' => e = .returned (.bool false) ∧ Below w.heap.size w w' := by
  go_enter Try.func29, Try.ntmps29
  go_wp2_with fail
  go_ret
  exact ⟨rfl, Below.refl _ _⟩
set_option maxHeartbeats 8000000 in
set_option maxRecDepth 100000 in
theorem rmay_many (A : Option Addr) (n c : Nat) (w : World) (hn : 512 < n) : Calls Try.prog 29 #[.slice A n c] w fun e w' => e = .returned (.bool false) ∧ Below w.heap.size w w' := by
  have f0 : decide ((0 : Int) < (n : Int)) = true := decide_eq_true (by omega)
  have f2 : decide (0 < n) = true := decide_eq_true (by omega)
  have f1 : decide ((n : Int) ≤ (512 : Int)) = false := decide_eq_false (by omega)
  go_enter Try.func29, Try.ntmps29
  go_wp2_with fail
  go_ret
  exact ⟨rfl, Below.refl _ _⟩
set_option maxHeartbeats 8000000 in
set_option maxRecDepth 100000 in
theorem rmay_text (A : Option Addr) (n c : Nat) (v : List Nd) (w : World) (hr : RdB NdS w A v) (hn : v.length = n) (h0 : 0 < n) (h5 : n ≤ 512) (hk : (v[0]'(by omega)).kind ≠ 1) : Calls Try.prog 29 #[.slice A n c] w fun e w' => e = .returned (.bool false) ∧ Below w.heap.size w w' := by
  obtain ⟨b0, off, x, y, t, A1, c1, hA, hbB, hin, q0, -⟩ := nd_at hr (k := 0) (by omega)
  have f0 : decide ((0 : Int) < (n : Int)) = true := decide_eq_true (by omega)
  have f2 : decide (0 < n) = true := decide_eq_true (by omega)
  have f1 : decide ((n : Int) ≤ (512 : Int)) = true := decide_eq_true (by omega)
  have bn : (0 : Int) < (n : Int) ∧ (n : Int) ≤ 512 := by omega
  rw [Nat.zero_mul, Nat.add_zero] at q0
  obtain ⟨kd, hkd⟩ : ∃ kd, (v[0]'(by omega)).kind = kd := ⟨_, rfl⟩
  rw [hkd] at q0
  have f3 : ((kd : Int) == 1) = false := by simp; omega
  subst hA
  clear hr hn hin hk hkd
  go_enter Try.func29, Try.ntmps29
  go_wp2_with fail
  go_ret
  exact ⟨rfl, Below.refl _ _⟩
set_option maxHeartbeats 8000000 in
set_option maxRecDepth 100000 in
theorem rmay_go (A : Option Addr) (n c : Nat) (v : List Nd) (w : World) (hr : RdB NdS w A v) (hn : v.length = n) (hsm : ∀ n ∈ v, SmallN n) (h0 : 0 < n) (h5 : n ≤ 512) (hk : (v[0]'(by omega)).kind = 1) (q : Bool) (hq : mayV v = q) : Calls Try.prog 29 #[.slice A n c] w fun e w' => e = .returned (.bool q) ∧ Below w.heap.size w w' := by
  obtain ⟨b0, off, x, y, t, A1, c1, hA, hbB, hin, q0, -⟩ := nd_at hr (k := 0) (by omega)
  have f0 : decide ((0 : Int) < (n : Int)) = true := decide_eq_true (by omega)
  have f2 : decide (0 < n) = true := decide_eq_true (by omega)
  have f1 : decide ((n : Int) ≤ (512 : Int)) = true := decide_eq_true (by omega)
  have bn : (0 : Int) < (n : Int) ∧ (n : Int) ≤ 512 := by omega
  rw [Nat.zero_mul, Nat.add_zero] at q0
  rw [hk] at q0
  rw [show ((1 : Nat) : Int) = 1 from rfl] at q0
  have hcall := rb_all A n c v hn h5 hsm 12 (by omega) 1 0 w (by omega) (by omega) hr
  obtain ⟨z, hz⟩ : ∃ z, bhZ v 12 0 = z := ⟨_, rfl⟩
  have HQ : Hid ((z == (n : Int)) = q) := Lib.hid (by
    rw [← hq, mayV_one (by omega) ⟨v[0]'(by omega), v.drop 1, by rw [← List.drop_eq_getElem_cons (by omega), List.drop_zero], hk⟩, ← bhQ_eq (by omega)]
    unfold bhQ
    rw [hz, hn])
  rw [hz, show ((0 : Nat) : Int) = 0 from rfl] at hcall
  have HC := Lib.hid hcall
  obtain ⟨q2, hq2⟩ : ∃ q2, (z == (n : Int)) = q2 := ⟨_, rfl⟩
  rw [hq2] at HQ
  subst hA
  clear hr hn hin hk hcall hz hq hsm
  go_enter Try.func29, Try.ntmps29
  go_wp2_with (first
    | (go_at_call 53; (with_reducible refine (HC.out).mono ?_); rintro e1 w1 ⟨rfl, hb1⟩)
    | fail)
  go_ret
  exact ⟨ret_b HQ.out, hb1⟩
/-- May a tree be? -/
theorem rmay10 (A : Option Addr) (n c : Nat) (v : List Nd) (w : World) (hr : RdB NdS w A v) (hn : v.length = n) (hmax : n ≤ 9223372036854775807) (hsm : n ≤ 512 → ∀ m ∈ v, SmallN m) (q : Bool) (hq : mayV v = q) : Calls Try.prog 29 #[.slice A n c] w fun e w' => e = .returned (.bool q) ∧ Below w.heap.size w w' := by
  by_cases h0 : n = 0
  · subst h0
    have : v = [] := List.eq_nil_of_length_eq_zero hn
    subst this
    obtain rfl : false = q := by rw [← hq]; rfl
    exact rmay_none A c w
  · by_cases h5 : n ≤ 512
    · by_cases hk : (v[0]'(by omega)).kind = 1
      · exact rmay_go A n c v w hr hn (hsm h5) (by omega) h5 hk q hq
      · obtain rfl : false = q := by
          rw [← hq]
          refine (mayV_no ?_).symm
          rintro ⟨_, m, l, rfl, k⟩
          exact hk k
        exact rmay_text A n c v w hr hn (by omega) h5 hk
    · obtain rfl : false = q := by
        rw [← hq]
        exact (mayV_no fun h => h5 (by omega)).symm
      exact rmay_many A n c w (by omega)
set_option maxRecDepth 100000 in
theorem rcheckv (A : Option Addr) (n c : Nat) (v : List Nd) (w : World) (hr : RdB NdS w A v) (hn : v.length = n) (hmax : n ≤ 9223372036854775807) (hsm : n ≤ 512 → ∀ m ∈ v, SmallN m) (q : Int) (hq : checkV v = q) : Calls Try.prog 20 #[.slice A n c] w fun e w' => e = .returned (.int .i64 q) ∧ Below w.heap.size w w' := by
  unfold checkV at hq
  cases hm : mayV v with
  | true =>
    rw [hm, if_pos rfl] at hq
    subst hq
    have HC := Lib.hid (rmay10 A n c v w hr hn hmax hsm true hm)
    clear hr hn hmax hsm hm
    go_enter Try.func20, Try.ntmps20
    go_wp2_with (first
      | (go_at_call 29; (with_reducible refine (HC.out).mono ?_); rintro e1 w1 ⟨rfl, hb1⟩)
      | fail)
    go_ret
    exact ⟨rfl, hb1⟩
  | false =>
    rw [hm, if_neg (by decide)] at hq
    subst hq
    have HC := Lib.hid (rmay10 A n c v w hr hn hmax hsm false hm)
    clear hr hn hmax hsm hm
    go_enter Try.func20, Try.ntmps20
    go_wp2_with (first
      | (go_at_call 29; (with_reducible refine (HC.out).mono ?_); rintro e1 w1 ⟨rfl, hb1⟩)
      | fail)
    go_ret
    exact ⟨rfl, hb1⟩
end Hx
end Go.Proofs.Ytlfmjnocfkamaaa
namespace Go.Proofs.Ytlfmjnocfkamaaa
open Go.RowKit
namespace Hx
open Lx Tr Tx Nmb Es
set_option linter.unusedVariables false
/-- So many nodes the first parts have. -/
def lenP (ls : List (List Nd)) (k : Nat) : Nat := (ls.take k).flatten.length
theorem lenP_next {ls : List (List Nd)} {k : Nat} (h : k < ls.length) : lenP ls (k + 1) = lenP ls k + (ls[k]'h).length := by
  unfold lenP
  rw [List.take_succ_eq_append_getElem h, List.flatten_append, List.length_append]
  simp
theorem lenP_all {ls : List (List Nd)} {n : Nat} (h : ls.length = n) : lenP ls n = ls.flatten.length := by
  unfold lenP
  rw [← h, List.take_length]
theorem lenP_le {ls : List (List Nd)} (h : ∀ v ∈ ls, v.length ≤ 100000) : ∀ k, lenP ls k ≤ k * 100000 := by
  intro k
  induction k with
  | zero => simp [lenP]
  | succ k ih =>
    by_cases hk : k < ls.length
    · have := h _ (List.getElem_mem hk)
      rw [lenP_next hk]
      omega
    · have : lenP ls (k + 1) = lenP ls k := by unfold lenP; rw [List.take_of_length_le (by omega), List.take_of_length_le (by omega)]
      omega
theorem flat_next {ls : List (List Nd)} {k : Nat} (h : k < ls.length) : (ls.take (k + 1)).flatten = (ls.take k).flatten ++ (ls[k]'h) := by
  rw [List.take_succ_eq_append_getElem h, List.flatten_append]
  simp
set_option maxHeartbeats 32000000 in
set_option maxRecDepth 100000 in
theorem rput_no (n : Nd) (x y z : ByteArray) (A : Option Addr) (c : Nat) (A2 : Option Addr) (m c2 : Nat) (ls : List (List Nd)) (w : World) (h : NdAt n x y z A c w) (hs : SmallN n) (hr : RdB (SlS NdS) w A2 ls) (hm : ls.length = m) (hmax : m ≤ 100000) (hsm : ∀ v ∈ ls, v.length ≤ 100000 ∧ ∀ b ∈ v, SmallN b) (hv : mayV [withM n 0] = false) :
    Calls Try.prog 24 #[NdV n x y z A c, .slice A2 m c2] w (PutsTo n ls w) := by
  have hb0 : Below w.heap.size w (w.alloc (.cells #[.int .u8 (n.kind : Int), .string x, .string y, .slice A n.attrs.length c, .string z, .int .i64 0] 53)) := stpA (Below.refl _ _) _
  have hn0 : NdIn (withM n 0) x y z A c (w.alloc (.cells #[.int .u8 (n.kind : Int), .string x, .string y, .slice A n.attrs.length c, .string z, .int .i64 0] 53)) (fun k => k < (w.alloc (.cells #[.int .u8 (n.kind : Int), .string x, .string y, .slice A n.attrs.length c, .string z, .int .i64 0] 53)).heap.size) := NdAt.on (NdIn.many h 0 (by decide) (by decide)) hb0
  have hrow : RdB NdS ((w.alloc (.cells #[.int .u8 (n.kind : Int), .string x, .string y, .slice A n.attrs.length c, .string z, .int .i64 0] 53)).alloc (.cells #[.int .u8 (n.kind : Int), .string x, .string y, .slice A n.attrs.length c, .string z, .int .i64 0] 53)) (some ⟨(w.alloc (.cells #[.int .u8 (n.kind : Int), .string x, .string y, .slice A n.attrs.length c, .string z, .int .i64 0] 53)).heap.size, 0, none⟩) [withM n 0] := one_row hn0
  rw [World.size_alloc] at hrow
  have hck := fun q hq => rmay10 _ 1 1 [withM n 0] _ hrow rfl (by decide) (fun _ b hb => by rw [List.mem_singleton] at hb; rw [hb]; exact hs.many 0) q hq
  have HB2 : Hid (Below w.heap.size w ((w.alloc (.cells #[.int .u8 (n.kind : Int), .string x, .string y, .slice A n.attrs.length c, .string z, .int .i64 0] 53)).alloc (.cells #[.int .u8 (n.kind : Int), .string x, .string y, .slice A n.attrs.length c, .string z, .int .i64 0] 53))) := Lib.hid (stpA hb0 _)
  have HX2 : Hid (((w.alloc (.cells #[.int .u8 (n.kind : Int), .string x, .string y, .slice A n.attrs.length c, .string z, .int .i64 0] 53)).alloc (.cells #[.int .u8 (n.kind : Int), .string x, .string y, .slice A n.attrs.length c, .string z, .int .i64 0] 53)).heap[w.heap.size]? = some (.cells #[.int .u8 (n.kind : Int), .string x, .string y, .slice A n.attrs.length c, .string z, .int .i64 0] 53 (0, 0))) := Lib.hid (kept_heap (heap_alloc_new w _) (stpA (Below.refl _ _) _))
  unfold NdV
  have HC := Lib.hid (hck false hv)
  have HP : Hid (putN n ls = ([], 8)) := Lib.hid (by unfold putN; rw [hv]; rfl)
  clear h hs hr hm hmax hsm hb0 hn0 hrow hck hv
  go_enter Try.func24, Try.ntmps24
  go_wp2_with (first
    | (go_at_call 29; (with_reducible refine (HC.out).mono ?_); rintro e1 w1 ⟨rfl, hb1⟩)
    | fail)
  go_ret2
  exact PutsTo.bad HP.out (stp HB2.out hb1)
set_option maxHeartbeats 32000000 in
set_option maxRecDepth 100000 in
theorem rput_go (n : Nd) (x y z : ByteArray) (A : Option Addr) (c : Nat) (A2 : Option Addr) (m c2 : Nat) (ls : List (List Nd)) (w : World) (h : NdAt n x y z A c w) (hs : SmallN n) (hr : RdB (SlS NdS) w A2 ls) (hm : ls.length = m) (hmax : m ≤ 100000) (hsm : ∀ v ∈ ls, v.length ≤ 100000 ∧ ∀ b ∈ v, SmallN b) (hv : mayV [withM n 0] = true) :
    Calls Try.prog 24 #[NdV n x y z A c, .slice A2 m c2] w (PutsTo n ls w) := by
  obtain ⟨i0, hi, hz0, hz1, hz2⟩ := info_parts infoNd
  have HI := Lib.hid hi
  have HZ0 := Lib.hid hz0
  have HZ1 := Lib.hid hz1
  have HZ2 := Lib.hid hz2
  clear hi hz0 hz1 hz2
  have hb0 : Below w.heap.size w (w.alloc (.cells #[.int .u8 (n.kind : Int), .string x, .string y, .slice A n.attrs.length c, .string z, .int .i64 0] 53)) := stpA (Below.refl _ _) _
  have hn0 : NdIn (withM n 0) x y z A c (w.alloc (.cells #[.int .u8 (n.kind : Int), .string x, .string y, .slice A n.attrs.length c, .string z, .int .i64 0] 53)) (fun k => k < (w.alloc (.cells #[.int .u8 (n.kind : Int), .string x, .string y, .slice A n.attrs.length c, .string z, .int .i64 0] 53)).heap.size) := NdAt.on (NdIn.many h 0 (by decide) (by decide)) hb0
  have hrow : RdB NdS ((w.alloc (.cells #[.int .u8 (n.kind : Int), .string x, .string y, .slice A n.attrs.length c, .string z, .int .i64 0] 53)).alloc (.cells #[.int .u8 (n.kind : Int), .string x, .string y, .slice A n.attrs.length c, .string z, .int .i64 0] 53)) (some ⟨(w.alloc (.cells #[.int .u8 (n.kind : Int), .string x, .string y, .slice A n.attrs.length c, .string z, .int .i64 0] 53)).heap.size, 0, none⟩) [withM n 0] := one_row hn0
  rw [World.size_alloc] at hrow
  have hck := fun q hq => rmay10 _ 1 1 [withM n 0] _ hrow rfl (by decide) (fun _ b hb => by rw [List.mem_singleton] at hb; rw [hb]; exact hs.many 0) q hq
  have HB2 : Hid (Below w.heap.size w ((w.alloc (.cells #[.int .u8 (n.kind : Int), .string x, .string y, .slice A n.attrs.length c, .string z, .int .i64 0] 53)).alloc (.cells #[.int .u8 (n.kind : Int), .string x, .string y, .slice A n.attrs.length c, .string z, .int .i64 0] 53))) := Lib.hid (stpA hb0 _)
  have HX2 : Hid (((w.alloc (.cells #[.int .u8 (n.kind : Int), .string x, .string y, .slice A n.attrs.length c, .string z, .int .i64 0] 53)).alloc (.cells #[.int .u8 (n.kind : Int), .string x, .string y, .slice A n.attrs.length c, .string z, .int .i64 0] 53)).heap[w.heap.size]? = some (.cells #[.int .u8 (n.kind : Int), .string x, .string y, .slice A n.attrs.length c, .string z, .int .i64 0] 53 (0, 0))) := Lib.hid (kept_heap (heap_alloc_new w _) (stpA (Below.refl _ _) _))
  unfold NdV
  have HC := Lib.hid (hck true hv)
  have HPU : Hid (putN n ls = (if ls.all partOk = true then (if 512 < 1 + ls.flatten.length then ([], 4) else if mayV (withM n ls.length :: ls.flatten) = true then (withM n ls.length :: ls.flatten, 0) else ([], 8)) else ([], 8))) := Lib.hid (by unfold putN; rw [if_pos hv])
  have HR := Lib.hid hr
  have HM := Lib.hid hm
  have HMX := Lib.hid hmax
  have HSM := Lib.hid hsm
  have HN := Lib.hid (NdIn.many h (m : Int) (by omega) (by omega))
  have HSN := Lib.hid (hs.many (m : Int))
  have bm : (0 : Int) ≤ (m : Int) ∧ (m : Int) ≤ 100000 := by omega
  clear h hs hr hm hmax hsm hb0 hn0 hrow hck hv
  go_enter Try.func24, Try.ntmps24
  go_wp2_with (first
    | (go_at_call 29; (with_reducible refine (HC.out).mono ?_); rintro e1 w1 ⟨rfl, hb1⟩; have HB1 := Lib.hid (stp HB2.out hb1); have HX1 := Lib.hid (kept_heap HX2.out hb1); clear hb1)
    | fail)
  go_loopg [7, 8] m (fun gg i x8 wr => ∃ k : Nat, k + gg = m ∧ i = .int .i64 k ∧ (ls.take k).all partOk = true ∧ Below w1.heap.size w1 wr)
  case atStart => exact ⟨0, by omega, rfl, rfl, Below.refl _ _⟩
  case round =>
    obtain ⟨k, hk, rfl, hall, hbw⟩ := hrel
    have HBW := Lib.hid hbw
    have HALL := Lib.hid hall
    have hm := HMX.out
    by_cases hlt : k < m
    · have hk1 : k < ls.length := by rw [HM.out]; exact hlt
      have HBT := Lib.hid (stp HB1.out hbw)
      obtain ⟨b0, off, A1, c1, hA, hbB, hc, -, -, -, hrd⟩ := sl_at (HR.out.on HBT.out) hk1
      obtain ⟨v, hv⟩ : ∃ v, ls[k]'hk1 = v := ⟨_, rfl⟩
      have hsv := HSM.out _ (List.getElem_mem hk1)
      rw [hv] at hc hrd hsv
      have bk : (0 : Int) ≤ (k : Int) ∧ (k : Int) < (m : Int) := by omega
      obtain ⟨p, hp⟩ : ∃ p, v.length = p := ⟨_, rfl⟩
      rw [hp] at hc
      have bp : (p : Int) ≤ 100000 := by omega
      have HYES : Hid (partOk v = true → (ls.take (k + 1)).all partOk = true) := Lib.hid fun h => by rw [List.take_succ_eq_append_getElem hk1, List.all_append, hall, hv]; simp [h]
      have HNO : Hid (partOk v = false → putN n ls = ([], 8)) := Lib.hid fun h => by rw [HPU.out, all_no hk1 (by rw [hv]; exact h)]; rfl
      have HRD := Lib.hid hrd
      have HPV := Lib.hid hp
      have HSV := Lib.hid hsv.2
      have HKG := Lib.hid hk
      have HBB := Lib.hid hbB
      have HMAY : Hid (∀ W q, Below wr.heap.size wr W → mayV v = q → Calls Try.prog 29 #[.slice A1 p c1] W fun e w' => e = .returned (.bool q) ∧ Below W.heap.size W w') := Lib.hid fun W q hW hq => rmay10 A1 p c1 v W (hrd.on hW) hp (by omega) (fun _ => hsv.2) q hq
      subst hA
      clear hbw hall hrd hsv hv hk1 hp hk hbB
      by_cases h1 : p = 1
      · subst h1
        obtain ⟨b9, of9, x9, y9, z9, A9, c9, hA9, hb9, hin, q0, q1, q2, q3, q4, q5⟩ := nd_at HRD.out (k := 0) (by have := HPV.out; omega)
        rw [Nat.zero_mul, Nat.add_zero] at q0 q1 q2 q3 q4 q5
        have hp1 := partOk_one HPV.out
        have hsn := HSV.out _ (List.getElem_mem (show 0 < v.length by have := HPV.out; omega))
        have hkk : (v[0]'(by have := HPV.out; omega)).kind ≠ 1 → mayV v = false := fun h => mayV_kind _ h
        obtain ⟨nd, hnd⟩ : ∃ nd, v[0]'(by have := HPV.out; omega) = nd := ⟨_, rfl⟩
        rw [hnd] at hin q0 q3 q5 hp1 hsn hkk
        obtain ⟨kd, hkd⟩ : ∃ kd, nd.kind = kd := ⟨_, rfl⟩
        have HND := Lib.hid hin
        have HSNN := Lib.hid hsn
        subst hA9
        by_cases hk2 : kd = 2
        · cases ho : ndOk nd with
          | true =>
            have hpo : partOk v = true := by rw [hp1, hkd, decide_eq_true hk2, ho]; rfl
            have HALL2 := Lib.hid (HYES.out hpo)
            have HNC := Lib.hid (rnode nd x9 y9 z9 A9 c9 wr hin hsn true ho)
            unfold NdV at HNC
            rw [hkd, hk2, show ((2 : Nat) : Int) = 2 from rfl] at HNC q0
            clear hin hp1 hsn hkk hnd ho hpo hkd hk2
            go_wp2_with (first
              | (go_at_call 51; (with_reducible refine (HNC.out).mono ?_); rintro e2 w2 ⟨rfl, hb2⟩; have HB3 := Lib.hid (stp HBW.out hb2); clear hb2)
              | fail)
            go_roundg (gk - 1)
            case rel => exact ⟨k + 1, by have := HKG.out; omega, by go_num, HALL2.out, HB3.out⟩
            case measure => have := HKG.out; omega
          | false =>
            have hmv : mayV v = false := hkk (by rw [hkd, hk2]; decide)
            have hpo : partOk v = false := by rw [hp1, ho, hmv, Bool.and_false]; rfl
            have HP := Lib.hid (HNO.out hpo)
            have HNC := Lib.hid (rnode nd x9 y9 z9 A9 c9 wr hin hsn false ho)
            have HMF := Lib.hid hmv
            have hcx : ∀ W, Below wr.heap.size wr W → W.cell? ⟨b0, off + k, none⟩ = some (.slice (some ⟨b9, of9, none⟩) 1 c1) := fun W hW => (hW.cell (p := ⟨b0, _, none⟩) HBB.out).trans hc
            have HCX := Lib.hid hcx
            unfold NdV at HNC
            rw [hkd, hk2, show ((2 : Nat) : Int) = 2 from rfl] at HNC q0
            clear hin hp1 hsn hkk hnd ho hpo hkd hk2 hmv hcx
            go_wp2_with (first
              | (go_at_call 51; (with_reducible refine (HNC.out).mono ?_); rintro e2 w2 ⟨rfl, hb2⟩; have HB3 := Lib.hid hb2; have hc2 := HCX.out w2 hb2; clear hb2)
              | (go_at_call 29; (with_reducible refine (HMAY.out _ false HB3.out HMF.out).mono ?_); rintro e3 w3 ⟨rfl, hb3⟩)
              | fail)
            go_ret2
            exact PutsTo.bad HP.out (stp (stp HBT.out HB3.out) hb3)
        · have f2 : ((kd : Int) == 2) = false := by simp; omega
          rw [hkd] at q0
          have hpe : partOk v = mayV v := by rw [hp1, hkd, decide_eq_false hk2]; rfl
          cases hmv : mayV v with
          | true =>
            have HALL2 := Lib.hid (HYES.out (hpe.trans hmv))
            have HMF := Lib.hid hmv
            clear hin hp1 hsn hkk hnd hkd hk2 hmv hpe
            go_wp2_with (first
              | (go_at_call 29; (with_reducible refine (HMAY.out _ true (Below.refl _ _) HMF.out).mono ?_); rintro e3 w3 ⟨rfl, hb3⟩; have HB3 := Lib.hid (stp HBW.out hb3); clear hb3)
              | fail)
            go_roundg (gk - 1)
            case rel => exact ⟨k + 1, by have := HKG.out; omega, by go_num, HALL2.out, HB3.out⟩
            case measure => have := HKG.out; omega
          | false =>
            have HP := Lib.hid (HNO.out (hpe.trans hmv))
            have HMF := Lib.hid hmv
            clear hin hp1 hsn hkk hnd hkd hk2 hmv hpe
            go_wp2_with (first
              | (go_at_call 29; (with_reducible refine (HMAY.out _ false (Below.refl _ _) HMF.out).mono ?_); rintro e3 w3 ⟨rfl, hb3⟩)
              | fail)
            go_ret2
            exact PutsTo.bad HP.out (stp HBT.out hb3)
      · have f1 : ((p : Int) == 1) = false := by simp; omega
        have hpe : partOk v = mayV v := partOk_not1 (by rw [HPV.out]; exact h1)
        cases hmv : mayV v with
        | true =>
          have HALL2 := Lib.hid (HYES.out (hpe.trans hmv))
          have HMF := Lib.hid hmv
          clear hmv hpe h1
          go_wp2_with (first
            | (go_at_call 29; (with_reducible refine (HMAY.out _ true (Below.refl _ _) HMF.out).mono ?_); rintro e3 w3 ⟨rfl, hb3⟩; have HB3 := Lib.hid (stp HBW.out hb3); clear hb3)
            | fail)
          go_roundg (gk - 1)
          case rel => exact ⟨k + 1, by have := HKG.out; omega, by go_num, HALL2.out, HB3.out⟩
          case measure => have := HKG.out; omega
        | false =>
          have HP := Lib.hid (HNO.out (hpe.trans hmv))
          have HMF := Lib.hid hmv
          clear hmv hpe h1
          go_wp2_with (first
            | (go_at_call 29; (with_reducible refine (HMAY.out _ false (Below.refl _ _) HMF.out).mono ?_); rintro e3 w3 ⟨rfl, hb3⟩)
            | fail)
          go_ret2
          exact PutsTo.bad HP.out (stp HBT.out hb3)
    · obtain rfl : k = m := by omega
      have hallp : ls.all partOk = true := by rw [← HM.out, List.take_length] at hall; exact hall
      have HALLP := Lib.hid hallp
      have HB3 := Lib.hid (stp HB1.out hbw)
      have HX3 := Lib.hid (kept_heap HX1.out hbw)
      obtain ⟨w2, rfl⟩ : ∃ w2 : World, w2 = wr := ⟨_, rfl⟩
      obtain ⟨m, rfl⟩ : ∃ m, m = k := ⟨_, rfl⟩
      clear hall hbw hallp hlt hk
      go_wp2_with fail
      go_loopg [6, 9] m (fun gg x6 i wr => ∃ k : Nat, k + gg = m ∧ i = .int .i64 k ∧ x6 = .int .i64 ((1 + lenP ls k : Nat) : Int) ∧ w2 = wr)
      case atStart => exact ⟨0, by omega, rfl, by simp [lenP], rfl⟩
      case round =>
        obtain ⟨k, hk, rfl, rfl, rfl⟩ := hrel
        by_cases hlt : k < m
        · have hk1 : k < ls.length := by rw [HM.out]; exact hlt
          obtain ⟨b0, off, A1, c1, hA, hbB, hc, -, -, -, hrd⟩ := sl_at (HR.out.on HB3.out) hk1
          have hle : lenP ls k ≤ k * 100000 ∧ (ls[k]'hk1).length ≤ 100000 := ⟨lenP_le (fun v hv => (HSM.out v hv).1) k, (HSM.out _ (List.getElem_mem hk1)).1⟩
          have HNX := Lib.hid (lenP_next hk1)
          obtain ⟨p, hp⟩ : ∃ p, (ls[k]'hk1).length = p := ⟨_, rfl⟩
          rw [hp] at hc hle HNX
          obtain ⟨a9, ha9⟩ : ∃ a9, 1 + lenP ls k = a9 := ⟨_, rfl⟩
          have HA9 := Lib.hid ha9
          have bk : (0 : Int) ≤ (k : Int) ∧ (k : Int) < (m : Int) := by omega
          have ba9 : (a9 : Int) ≤ 10000000001 := by omega
          have bp : (p : Int) ≤ 100000 := by omega
          rw [ha9]
          subst hA
          clear hrd hk1 hp ha9 hle
          go_wp2_with fail
          go_roundg (gk - 1)
          case rel => exact ⟨k + 1, by omega, by go_num, by rw [HNX.out, ← HA9.out]; congr 1; omega, rfl⟩
          case measure => omega
        · obtain rfl : k = m := by omega
          obtain ⟨F, hF⟩ : ∃ F, 1 + lenP ls k = F := ⟨_, rfl⟩
          have HFF : Hid (1 + ls.flatten.length = F) := Lib.hid (by rw [← hF, lenP_all HM.out])
          rw [hF]
          clear hF hlt hk
          by_cases h512 : 512 < F
          · have f5 : decide ((512 : Int) < (F : Int)) = true := decide_eq_true (by omega)
            have HP : Hid (putN n ls = ([], 4)) := Lib.hid (by rw [HPU.out, if_pos HALLP.out, if_pos (by rw [HFF.out]; exact h512)])
            go_wp2_with fail
            go_ret2
            exact PutsTo.bad HP.out HB3.out
          · have f5 : decide ((512 : Int) < (F : Int)) = false := decide_eq_false (by omega)
            have HNB : Hid (¬ 512 < 1 + ls.flatten.length) := Lib.hid (by rw [HFF.out]; exact h512)
            obtain ⟨m, rfl⟩ : ∃ m, m = k := ⟨_, rfl⟩
            obtain ⟨w9, rfl⟩ : ∃ w9 : World, w9 = w2 := ⟨_, rfl⟩
            have k5 := cellV w9 _ 5 _ _ _ HX3.out
            have f5' := freeV w9 _ 5 _ _ HX3.out
            have HX4 := Lib.hid (heap_setCell_same w9 w.heap.size 5 _ _ (.int .i64 (m : Int)) HX3.out)
            clear h512
            go_wp2_with (first
              | (refine wpList_load_row rfl _ _ rfl w.heap.size rfl 53 #[.int .u8 (n.kind : Int), .string x, .string y, .slice A n.attrs.length c, .string z, .int .i64 (m : Int)] (0, 0) _ HX4.out Try.underlying53 rfl infoNdS ?_)
              | fail)
            have HW3 : Hid (Below w.heap.size w (w9.setCell ⟨w.heap.size, 5, none⟩ (.int .i64 (m : Int)))) := Lib.hid (HB3.out.setCell (p := ⟨w.heap.size, 5, none⟩) (Nat.le_refl _) _)
            have HST0 := Lib.hid (put_first HN.out HW3.out)
            clear k5 f5'
            go_loopg [10, 11] m (fun gg x8 i wr => ∃ (k : Nat) (L : List NB), k + gg = m ∧ i = .int .i64 k ∧ L.map NB.n = withM n m :: (ls.take k).flatten ∧ L.length ≤ 512 ∧ NdSt 0 w L x8 wr)
            case atStart => exact ⟨0, [⟨withM n m, x, y, z, A, c⟩], by omega, rfl, rfl, by rw [List.length_singleton]; decide, HST0.out⟩
            case round =>
              obtain ⟨k, L, hk, rfl, hmap, hlen, hst⟩ := hrel
              obtain ⟨Ao, co, rfl⟩ := own_form2 hst.1
              have HST := Lib.hid hst
              have HMAP := Lib.hid hmap
              have HLE := Lib.hid hlen
              have hm := HMX.out
              by_cases hlt : k < m
              · have hk1 : k < ls.length := by rw [HM.out]; exact hlt
                obtain ⟨b0, off, A1, c1, hA, hbB, hc, -, -, -, hrd⟩ := sl_at (HR.out.on hst.2.2) hk1
                have hrd0 := (sl_at HR.out hk1)
                obtain ⟨v, hv⟩ : ∃ v, ls[k]'hk1 = v := ⟨_, rfl⟩
                have hpo : partOk v = true := by rw [← hv]; exact List.all_eq_true.1 HALLP.out _ (List.getElem_mem hk1)
                obtain ⟨hp0, hp5⟩ := partOk_len hpo
                rw [hv] at hc hrd
                obtain ⟨p, hp⟩ : ∃ p, v.length = p := ⟨_, rfl⟩
                rw [hp] at hc hp0 hp5
                obtain ⟨b9, of9, A9', c9', hA9, hb9, hc9, -, -, -, hrd9⟩ := sl_at HR.out hk1
                have eA : A1 = A9' := by
                  rw [hA] at hA9
                  injection hA9 with e1
                  injection e1 with e1 e2 _
                  subst e1 e2
                  have h7 := (hst.2.2.cell (p := ⟨b0, off + k, none⟩) hb9).trans hc9
                  rw [hv, hp, hc] at h7
                  injection h7 with h7
                  injection h7
                subst eA
                rw [hv] at hrd9
                obtain ⟨b1, of1, hA1, hb1B, _⟩ := hrd9 (by rw [hp]; exact hp0)
                subst hA1
                obtain ⟨M, hM1, hM2, hM3⟩ := nodes_of hrd9
                have hML : M.length = p := by rw [← hp, ← hM1, List.length_map]
                have HNEWS : Hid (∀ (j : Nat) (u : Value), (M.flatMap nbCells)[j]? = some u → wr.cell? ((⟨b1, of1, none⟩ : Addr).add j) = some u) := Lib.hid fun j u hu => by
                  have h8 := hM3 j u hu
                  rw [addr_plain] at h8 ⊢
                  exact (hst.2.2.cell (p := ⟨b1, _, none⟩) hb1B).trans h8
                have HM2' : Hid (∀ b ∈ M, NdIn b.n b.x b.y b.z b.A b.c wr (fun k => k < w.heap.size)) := Lib.hid fun b hb => (hM2 b hb).keep (fun _ h => h) fun bl o hlt => hst.2.2.cell (p := ⟨bl, o, none⟩) hlt
                have HFL : Hid ((M.flatMap nbCells).length = p * 6) := Lib.hid (by rw [flat_len nbCells 6 (fun _ => rfl), hML])
                have HML := Lib.hid hML
                have HM1 : Hid (M.map NB.n = v) := Lib.hid hM1
                have HPV : Hid (v.length = p) := Lib.hid hp
                have HP5 : Hid (0 < p ∧ p ≤ 512) := Lib.hid ⟨hp0, hp5⟩
                have HMAP2 : Hid ((L ++ M).map NB.n = withM n m :: (ls.take (k + 1)).flatten) := Lib.hid (by
                  rw [List.map_append, hmap, hM1, List.take_succ_eq_append_getElem hk1, List.flatten_append, hv]
                  simp)
                have HBIG : Hid (512 < L.length + p → 512 < 1 + ls.flatten.length) := Lib.hid fun hb => by
                  have e1 : (L ++ M).length = 1 + (ls.take (k + 1)).flatten.length := by
                    have := congrArg List.length HMAP2.out
                    rw [List.length_map, List.length_cons] at this
                    omega
                  have e2 : (ls.take (k + 1)).flatten.length ≤ ls.flatten.length := by
                    conv => rhs; rw [← List.take_append_drop (k + 1) ls, List.flatten_append, List.length_append]
                    omega
                  rw [List.length_append] at e1
                  omega
                have bk : (0 : Int) ≤ (k : Int) ∧ (k : Int) < (m : Int) := by omega
                have HKG := Lib.hid hk
                have HBO : Hid (Below w.heap.size w wr) := Lib.hid hst.2.2
                subst hA
                clear hst hmap hrd hrd0 hpo hp0 hp5 hv hp hk1 hM1 hM2 hM3 hML hrd9 hc9 hA9 hb9 hb1B hk hlen hbB
                have h5 : ¬ 512 < L.length + p := fun h => HNB.out (HBIG.out h)
                go_wp2_with (first
                  | (at_builtin; refine wpList_append_own_at _ rfl (.tmp 84) (.tmp 88) 22 rfl w.heap.size 53 i0 (.agg #[.int .u8 0, .string ⟨#[]⟩, .string ⟨#[]⟩, .slice none 0 0, .string ⟨#[]⟩, .int .i64 0]) 6 88 Try.underlying22 HI.out HZ0.out HZ1.out HZ2.out rfl (by decide) _ L.length _ rfl HST.out.1 ⟨b1, of1, none⟩ p c1 (M.flatMap nbCells) rfl HFL.out HNEWS.out (nb_one M) (by have := HLE.out; have := HP5.out; unfold maxLen; omega) (by have := HLE.out; have := HP5.out; omega) HBO.out.size ?_; intro v5 w5 hown5 hgr5 _ hlie; obtain ⟨A5, c5', rfl⟩ := own_form2 hown5; have HX5 := Lib.hid (part_fin HST.out rfl HM1.out HM2'.out (by rw [HPV.out]; exact hown5) hgr5 hlie); clear hown5 hgr5 hlie)
                  | fail)
                go_roundg (gk - 1)
                case rel => exact ⟨k + 1, L ++ M, by have := HKG.out; omega, by go_num, HMAP2.out, by rw [List.length_append, HML.out]; omega, HX5.out⟩
                case measure => have := HKG.out; omega
              · obtain rfl : k = m := by omega
                obtain ⟨h1, h2⟩ := hst.read (Nat.zero_le _)
                have h2 : Hid True := Lib.hid trivial
                rw [hmap, ← HM.out, List.take_length] at h1
                rw [HM.out] at h1
                obtain ⟨V, hV⟩ : ∃ V, withM n (k : Int) :: ls.flatten = V := ⟨_, rfl⟩
                have hVL : V.length = L.length := by
                  have := congrArg List.length hmap
                  rw [List.length_map, ← HM.out, List.take_length, List.length_cons] at this
                  rw [← hV, List.length_cons]
                  omega
                rw [hV] at h1
                have hsmV : ∀ b ∈ V, SmallN b := by
                  rw [← hV]
                  intro b hb
                  rcases List.mem_cons.1 hb with rfl | hb
                  · exact HSN.out
                  · obtain ⟨l, hl, hbl⟩ := List.mem_flatten.1 hb
                    exact (HSM.out l hl).2 b hbl
                have hle : ¬ 512 < 1 + ls.flatten.length := by
                  rw [← hV, List.length_cons] at hVL
                  omega
                have hpu := HPU.out
                rw [if_pos HALLP.out, if_neg hle, HM.out, hV] at hpu
                have HOUT : Hid (RdB NdS wr Ao V) := Lib.hid h1.all
                have HVL := Lib.hid hVL
                have HBW := Lib.hid hst.2.2
                have hlen2 := hlen
                cases hmv : mayV V with
                | true =>
                  rw [hmv, if_pos rfl] at hpu
                  have HP := Lib.hid hpu
                  have HCK := Lib.hid (rmay10 Ao L.length co V wr HOUT.out hVL (by omega) (fun _ => hsmV) true hmv)
                  have HTW : Hid (∀ W, Below wr.heap.size wr W → Calls Try.prog 6 #[.slice Ao L.length co] W (TwinTo V W)) := Lib.hid fun W hW => rtwin10 Ao L.length co V W (HOUT.out.on hW) hVL (by omega) (fun b hb => (hsmV b hb).attrs)
                  clear hst hmap h1 h2 hV hVL hsmV hle hpu hmv
                  go_wp2_with (first
                    | (go_at_call 29; (with_reducible refine (HCK.out).mono ?_); rintro e3 w3 ⟨rfl, hb3⟩; have HB4 := Lib.hid hb3; clear hb3)
                    | (go_at_call 6; (with_reducible refine (HTW.out _ HB4.out).mono ?_); rintro e4 w4 ⟨A4, c4, rfl, ho4, hb4⟩; have HO4 := Lib.hid ho4; have HB5 := Lib.hid hb4; clear ho4 hb4)
                    | fail)
                  go_ret2
                  exact ⟨V, 0, A4, c4, HP.out, rfl, HO4.out.weak (Nat.le_trans HBW.out.size HB4.out.size), stp (stp HBW.out HB4.out) HB5.out⟩
                | false =>
                  rw [hmv, if_neg (by decide)] at hpu
                  have HP := Lib.hid hpu
                  have HCK := Lib.hid (rmay10 Ao L.length co V wr HOUT.out hVL (by omega) (fun _ => hsmV) false hmv)
                  clear hst hmap h1 h2 hV hVL hsmV hle hpu hmv
                  go_wp2_with (first
                    | (go_at_call 29; (with_reducible refine (HCK.out).mono ?_); rintro e3 w3 ⟨rfl, hb3⟩; have HB4 := Lib.hid hb3; clear hb3)
                    | fail)
                  go_ret2
                  exact PutsTo.bad HP.out (stp HBW.out HB4.out)
end Hx
end Go.Proofs.Ytlfmjnocfkamaaa
