/-
  A text is cut between code points, and nowhere else; two texts, one behind the other, are one.
-/
import Derived.Test.YtjpebnnifbnjjaaTextW
import Derived.WalkKit
import Derived.ProofKit
import Derived.OpenShut
import Derived.ShutString
import Derived.ChangeOld
import Derived.Below
namespace Go.Proofs.Ytjpebnnifbnjjaa.textCuts
open Go.ChangeShapes Go.WideShapes Go.ChangeAt Go.RowKit
open Go.ChangeMaps (open_string shut_string)
open Hx Tx
set_option linter.unusedVariables false

theorem own : ownKnob Try.prog.godebug = none := by kernel_rfl
theorem laidOut : laidOutB Try.prog = true := by kernel_rfl

set_option linter.unusedVariables false
theorem own_any5 {w : World} {base : Nat} {e : TypeId} {v : Value} {n : Nat} {l : List Int} (h : w.ownsRow base e 1 v n (l.map encZ)) : ∃ A c, v = .slice A n c ∧ RdZ w w.heap.size A l := by
  obtain ⟨A, c, rfl⟩ := own_form h
  exact ⟨A, c, rfl, (RdG.of_own h).1⟩
theorem encs_le (ns : List Nat) : ns.length ≤ (encs ns).length := by
  induction ns with
  | nil => simp
  | cons n ns ih =>
    rw [encs_cons, List.length_append]
    have := (enc_length n).1
    simp only [List.length_cons]
    omega
theorem pts_le {s : ByteArray} {ns : List Nat} (h : pts s.data.toList = some ns) : ns.length ≤ s.size := by
  have h2 := congrArg List.length ((pts_iff _ _).1 h).1
  rw [ba_len5] at h2
  have h3 := encs_le ns
  omega
theorem chk_pts {s : ByteArray} {ns : List Nat} (h : pts s.data.toList = some ns) (hm : s.size ≤ 16384) : chkE s = 0 := by unfold chkE; rw [if_neg (by omega), h]; rfl
theorem chk_none {s : ByteArray} (h : pts s.data.toList = none) (hm : s.size ≤ 16384) : chkE s = 50 := by unfold chkE; rw [if_neg (by omega), h]; rfl
theorem extract_take (s : ByteArray) (a : Nat) : s.extract 0 a = ⟨(s.data.toList.take a).toArray⟩ := by
  have := ByteArray.extract_mk s.data.toList 0 a
  rw [← ba_eq5] at this
  rw [this, List.drop_zero, Nat.sub_zero]
theorem cat_list (a b : ByteArray) : (a ++ b).data.toList = a.data.toList ++ b.data.toList := by simp
/-- A text cut at k. -/
theorem cut_at {s : ByteArray} {ns : List Nat} (h : pts s.data.toList = some ns) (hm : s.size ≤ 16384) (k : Nat) (hk : k < s.size) :
    ∃ p m, (nextR (s.data.toList.drop k) = (p, m, 0) ∧ chkE (s.extract 0 k) = 0 ∧ chkE (s.extract k s.size) = 0) ∨ (nextR (s.data.toList.drop k) = (p, m, 50) ∧ chkE (s.extract 0 k) = 50 ∧ chkE (s.extract k s.size) = 50) := by
  obtain ⟨h1, h2⟩ := (pts_iff _ _).1 h
  have hl : (encs ns).length = s.size := by rw [← h1]; exact ba_len5 s
  have h3 : (s.extract 0 k).size ≤ 16384 := by rw [extract_take, size_mk5, List.length_take, ba_len5]; omega
  have h4 : (s.extract k s.size).size ≤ 16384 := by rw [extract_drop, size_mk5, List.length_drop, ba_len5]; omega
  have e3 : (s.extract 0 k).data.toList = s.data.toList.take k := by rw [extract_take]
  have e4 : (s.extract k s.size).data.toList = s.data.toList.drop k := by rw [extract_drop]
  rcases cut ns h2 k (by omega) with ⟨c1, c2, c3⟩ | ⟨c1, c2, c3⟩ <;> rw [← h1] at c1 c2 c3
  · obtain ⟨⟨p, m⟩, c1⟩ := Option.isSome_iff_exists.1 c1
    obtain ⟨x, c2⟩ := Option.isSome_iff_exists.1 c2
    obtain ⟨y, c3⟩ := Option.isSome_iff_exists.1 c3
    exact ⟨p, m, .inl ⟨by unfold nextR; rw [c1], chk_pts (by rw [e3]; exact c2) h3, chk_pts (by rw [e4]; exact c3) h4⟩⟩
  · exact ⟨0, 0, .inr ⟨by unfold nextR; rw [c1], chk_none (by rw [e3]; exact c2) h3, chk_none (by rw [e4]; exact c3) h4⟩⟩
/-- An operation whose guard lets it be done is done as without its guard. -/
theorem wpList_guarded {P : Program} {ops : Array Oper} {Q : Exit → Act → World → Prop} {a : Act} {w : World} {rest : List Oper} {o : Oper} (hw : Region.wanted o (yielded ops a.tmps) = true) (h : wpList P ops Q ({ o with guard := none } :: rest) a w) : wpList P ops Q (o :: rest) a w := by
  rw [wpList] at h ⊢
  rw [if_pos hw]
  rw [if_pos (show Region.wanted { o with guard := none } (yielded ops a.tmps) = true from rfl)] at h
  exact h
set_option maxHeartbeats 1000000 in
set_option maxRecDepth 100000 in
theorem walkOut (a b : ByteArray) (a2 : Int) (w : World) (ha : a.size ≤ maxLen) (hb : b.size ≤ maxLen) (h : 1000 < a.size ∨ (a.size ≤ 1000 ∧ 1000 < b.size)) :
    Calls Try.prog 8 #[.string a, .string b, .int .i64 a2] w fun e w' => e = .returned (.bool true) ∧ Below w.heap.size w w' := by
  rcases h with h0 | ⟨h0, h1⟩
  · have t0 : decide ((1000 : Int) < (a.size : Int)) = true := by simp; omega
    clear h0
    go_enter Try.func8, Try.ntmps8
    go_wp2_with (first
      | (go_at_call 12; (with_reducible refine (alive5 w).mono ?_); rintro e w1 ⟨rfl, hb1⟩)
      | fail)
    go_ret
    exact ⟨rfl, hb1⟩
  · have t0 : decide ((1000 : Int) < (a.size : Int)) = false := by simp; omega
    have t1 : decide ((1000 : Int) < (b.size : Int)) = true := by simp; omega
    clear h0 h1
    go_enter Try.func8, Try.ntmps8
    go_wp2_with (first
      | (go_at_call 12; (with_reducible refine (alive5 w).mono ?_); rintro e w1 ⟨rfl, hb1⟩)
      | fail)
    go_ret
    exact ⟨rfl, hb1⟩
set_option maxHeartbeats 1000000 in
set_option maxRecDepth 100000 in
theorem walkBad (a b : ByteArray) (a2 : Int) (w : World) (h0 : a.size ≤ 1000) (h1 : b.size ≤ 1000) (p q : Int) (hp : chkE a = p) (hq : chkE b = q) (h : p ≠ 0 ∨ (p = 0 ∧ q ≠ 0)) :
    Calls Try.prog 8 #[.string a, .string b, .int .i64 a2] w fun e w' => e = .returned (.bool true) ∧ Below w.heap.size w w' := by
  have t0 : decide ((1000 : Int) < (a.size : Int)) = false := by simp; omega
  have t1 : decide ((1000 : Int) < (b.size : Int)) = false := by simp; omega
  have HA : Hid (a.size ≤ 1000000) := Lib.hid (by omega)
  have HB : Hid (b.size ≤ 1000000) := Lib.hid (by omega)
  have HP := Lib.hid hp
  have HQ := Lib.hid hq
  clear hp hq h0 h1
  rcases h with h | ⟨rfl, h⟩
  · go_enter Try.func8, Try.ntmps8
    go_wp2_with (first
      | (go_at_call 12; (with_reducible refine (alive5 w).mono ?_); rintro e w1 ⟨rfl, hb1⟩)
      | (go_at_call 9; (with_reducible refine (check5 a w1 HA.out p HP.out).mono ?_); rintro e w2 ⟨rfl, hb2⟩; have hB2 := stp hb1 hb2)
      | fail)
    go_ret
    exact ⟨rfl, hB2⟩
  · go_enter Try.func8, Try.ntmps8
    go_wp2_with (first
      | (go_at_call 12; (with_reducible refine (alive5 w).mono ?_); rintro e w1 ⟨rfl, hb1⟩)
      | (go_at_call 9; (with_reducible refine (check5 a w1 HA.out 0 HP.out).mono ?_); rintro e w2 ⟨rfl, hb2⟩; have hB2 := stp hb1 hb2)
      | (go_at_call 9; (with_reducible refine (check5 b w2 HB.out q HQ.out).mono ?_); rintro e w3 ⟨rfl, hb3⟩; have hB3 := stp hB2 hb3)
      | fail)
    go_ret
    exact ⟨rfl, hB3⟩
set_option maxHeartbeats 4000000 in
set_option maxRecDepth 100000 in
theorem walkFar (a b s : ByteArray) (a2 : Int) (w : World) (h0 : a.size ≤ 1000) (h1 : b.size ≤ 1000) (hs : a ++ b = s) (hsz : s.size = a.size + b.size) (na nb : List Nat) (ha : pts a.data.toList = some na) (hb : pts b.data.toList = some nb) (hab : pts s.data.toList = some (na ++ nb)) (hat : a2 < 0 ∨ (s.size : Int) ≤ a2) :
    Calls Try.prog 8 #[.string a, .string b, .int .i64 a2] w fun e w' => e = .returned (.bool true) ∧ Below w.heap.size w w' := by
  have t0 : decide ((1000 : Int) < (a.size : Int)) = false := by simp; omega
  have t1 : decide ((1000 : Int) < (b.size : Int)) = false := by simp; omega
  obtain ⟨i0, hi, hz0, hz1, hz2⟩ := info_parts infoZ
  have HI := Lib.hid hi
  have HZ0 := Lib.hid hz0
  have HZ1 := Lib.hid hz1
  have HZ2 := Lib.hid hz2
  have HA : Hid (a.size ≤ 1000000) := Lib.hid (by omega)
  have HB : Hid (b.size ≤ 1000000) := Lib.hid (by omega)
  have HS : Hid (s.size ≤ 1000000) := Lib.hid (by omega)
  have HA2 : Hid (a.size ≤ 16384) := Lib.hid (by omega)
  have HB2 : Hid (b.size ≤ 16384) := Lib.hid (by omega)
  have HS2 : Hid (s.size ≤ 16384) := Lib.hid (by omega)
  have HCA := Lib.hid (chk_pts ha HA2.out)
  have HCB := Lib.hid (chk_pts hb HB2.out)
  have HPA := Lib.hid ha
  have HPB := Lib.hid hb
  have HPS := Lib.hid hab
  have la := pts_le ha
  have lb := pts_le hb
  have HLA : Hid (na.length ≤ 1000) := Lib.hid (by omega)
  have HLB : Hid (nb.length ≤ 1000) := Lib.hid (by omega)
  have HAB : Hid (zs na ++ zs nb = zs (na ++ nb)) := Lib.hid (zs_append na nb).symm
  have HLL : Hid ((na ++ nb).length = na.length + nb.length) := Lib.hid (List.length_append ..)
  have hcat : ∀ W, (Op.stringOp .add a b).run Try.prog W = .ok (.string s) W := fun W => by rw [run_string_add W a b (by omega) (by omega), hs]
  have HAT := Lib.hid hat
  clear hat
  clear hi hz0 hz1 hz2 ha hb hab la lb hs hsz h0 h1
  rcases HAT.out with hat | hat
  · have d0 : decide (a2 < 0) = true := by simp; omega
    clear hat
    go_enter Try.func8, Try.ntmps8
    go_wp2_with (first
      | (go_at_call 12; (with_reducible refine (alive5 w).mono ?_); rintro e w1 ⟨rfl, hb1⟩)
      | (go_at_call 9; (with_reducible refine (check5 a w1 HA.out 0 HCA.out).mono ?_); rintro e w2 ⟨rfl, hb2⟩; have hB2 := stp hb1 hb2)
      | (go_at_call 9; (with_reducible refine (check5 b w2 HB.out 0 HCB.out).mono ?_); rintro e w3 ⟨rfl, hb3⟩; have hB3 := stp hB2 hb3)
      | (go_at_call 14; (with_reducible refine (points5_ok a na w3 HA2.out HPA.out).mono ?_); rintro e w4 ⟨hb4, A4, c4, rfl, hz4, hr4⟩; have hB4 := stp hB3 hb4; have HR4 := Lib.hid hr4; have HZ4 := Lib.hid hz4; clear hr4 hz4)
      | (go_at_call 14; (with_reducible refine (points5_ok b nb w4 HB2.out HPB.out).mono ?_); rintro e w5 ⟨hb5, A5, c5, rfl, hz5, hr5⟩; have hB5 := stp hB4 hb5; have HR5 := Lib.hid hr5; have HZ5 := Lib.hid hz5; have HR45 := Lib.hid (HR4.out.on hb5); clear hr5 hz5)
      | (go_at_call 14; (with_reducible refine (points5_ok s (na ++ nb) w5 HS2.out HPS.out).mono ?_); rintro e w6 ⟨hb6, A6, c6, rfl, hz6, hr6⟩; rw [HLL.out]; have hB6 := stp hB5 hb6; have HR6 := Lib.hid hr6; clear hr6 hz6; have HR46 := Lib.hid (HR45.out.on hb6); have HR56 := Lib.hid (HR5.out.on hb6); have HE : Hid ((w6.alloc (.cells #[] 3)).ownsRow w6.heap.size 3 1 (.slice (some ⟨w6.heap.size, 0, none⟩) 0 0) 0 []) := Lib.hid (World.ownsRow_made w6 #[] 0 (Nat.le_refl _) (by decide) rfl); have hb7 := stpA (Below.refl w6.heap.size w6) (.cells #[] 3))
      | (at_builtin; refine wpList_guarded rfl ?_; refine wpList_append_rdg encZ_one rfl (.tmp 71) (.tmp 72) 28 rfl w6.heap.size 3 i0 (.int .i64 0) 8 Try.underlying28 HI.out HZ0.out HZ1.out HZ2.out (by decide) rfl _ 0 _ rfl HE.out w6.heap.size A4 na.length c4 (zs na) rfl (HR46.out.below hb7) (zs_length na) HZ4.out (by have := HLA.out; omega) hb7.size ?_; intro v8 w8 hown8 hgr8; have HO8 := Lib.hid hown8; have hb8 := hb7.grown hgr8 hb7.size (fun g hg => (HE.out.lt g hg).1); clear hown8 hgr8)
      | (at_builtin; refine wpList_guarded rfl ?_; refine wpList_append_rdg encZ_one rfl (.tmp 73) (.tmp 74) 28 rfl w6.heap.size 3 i0 (.int .i64 0) 8 Try.underlying28 HI.out HZ0.out HZ1.out HZ2.out (by decide) rfl _ _ _ rfl HO8.out w6.heap.size A5 nb.length c5 (zs nb) rfl (HR56.out.below hb8) (zs_length nb) HZ5.out (by have := HLA.out; have := HLB.out; omega) hb8.size ?_; intro v9 w9 hown9 hgr9; have hb9 := hb8.grown hgr9 hb8.size (fun g hg => (HO8.out.lt g hg).1); rw [List.nil_append, Nat.zero_add, ← List.map_append, HAB.out] at hown9; obtain ⟨A9, c9, hv9, hr9⟩ := own_any5 hown9; subst hv9; have HR9 := Lib.hid hr9; clear hown9 hgr9 hr9)
      | (go_at_call 16; (with_reducible refine (rsame5_yes A9 A6 (na.length + nb.length) c9 c6 (zs (na ++ nb)) w9 HR9.out (HR6.out.on hb9) ((zs_length _).trans HLL.out) (by have := HLA.out; have := HLB.out; omega)).mono ?_); rintro e w10 ⟨rfl, hb10⟩; have hB10 := stp (stp hB6 hb9) hb10)
      | fail)
    go_ret
    exact ⟨rfl, hB10⟩
  · have d0 : decide (a2 < 0) = false := by simp; omega
    have d1 : decide ((s.size : Int) ≤ a2) = true := by simp; omega
    clear hat
    go_enter Try.func8, Try.ntmps8
    go_wp2_with (first
      | (go_at_call 12; (with_reducible refine (alive5 w).mono ?_); rintro e w1 ⟨rfl, hb1⟩)
      | (go_at_call 9; (with_reducible refine (check5 a w1 HA.out 0 HCA.out).mono ?_); rintro e w2 ⟨rfl, hb2⟩; have hB2 := stp hb1 hb2)
      | (go_at_call 9; (with_reducible refine (check5 b w2 HB.out 0 HCB.out).mono ?_); rintro e w3 ⟨rfl, hb3⟩; have hB3 := stp hB2 hb3)
      | (go_at_call 14; (with_reducible refine (points5_ok a na w3 HA2.out HPA.out).mono ?_); rintro e w4 ⟨hb4, A4, c4, rfl, hz4, hr4⟩; have hB4 := stp hB3 hb4; have HR4 := Lib.hid hr4; have HZ4 := Lib.hid hz4; clear hr4 hz4)
      | (go_at_call 14; (with_reducible refine (points5_ok b nb w4 HB2.out HPB.out).mono ?_); rintro e w5 ⟨hb5, A5, c5, rfl, hz5, hr5⟩; have hB5 := stp hB4 hb5; have HR5 := Lib.hid hr5; have HZ5 := Lib.hid hz5; have HR45 := Lib.hid (HR4.out.on hb5); clear hr5 hz5)
      | (go_at_call 14; (with_reducible refine (points5_ok s (na ++ nb) w5 HS2.out HPS.out).mono ?_); rintro e w6 ⟨hb6, A6, c6, rfl, hz6, hr6⟩; rw [HLL.out]; have hB6 := stp hB5 hb6; have HR6 := Lib.hid hr6; clear hr6 hz6; have HR46 := Lib.hid (HR45.out.on hb6); have HR56 := Lib.hid (HR5.out.on hb6); have HE : Hid ((w6.alloc (.cells #[] 3)).ownsRow w6.heap.size 3 1 (.slice (some ⟨w6.heap.size, 0, none⟩) 0 0) 0 []) := Lib.hid (World.ownsRow_made w6 #[] 0 (Nat.le_refl _) (by decide) rfl); have hb7 := stpA (Below.refl w6.heap.size w6) (.cells #[] 3))
      | (at_builtin; refine wpList_guarded rfl ?_; refine wpList_append_rdg encZ_one rfl (.tmp 71) (.tmp 72) 28 rfl w6.heap.size 3 i0 (.int .i64 0) 8 Try.underlying28 HI.out HZ0.out HZ1.out HZ2.out (by decide) rfl _ 0 _ rfl HE.out w6.heap.size A4 na.length c4 (zs na) rfl (HR46.out.below hb7) (zs_length na) HZ4.out (by have := HLA.out; omega) hb7.size ?_; intro v8 w8 hown8 hgr8; have HO8 := Lib.hid hown8; have hb8 := hb7.grown hgr8 hb7.size (fun g hg => (HE.out.lt g hg).1); clear hown8 hgr8)
      | (at_builtin; refine wpList_guarded rfl ?_; refine wpList_append_rdg encZ_one rfl (.tmp 73) (.tmp 74) 28 rfl w6.heap.size 3 i0 (.int .i64 0) 8 Try.underlying28 HI.out HZ0.out HZ1.out HZ2.out (by decide) rfl _ _ _ rfl HO8.out w6.heap.size A5 nb.length c5 (zs nb) rfl (HR56.out.below hb8) (zs_length nb) HZ5.out (by have := HLA.out; have := HLB.out; omega) hb8.size ?_; intro v9 w9 hown9 hgr9; have hb9 := hb8.grown hgr9 hb8.size (fun g hg => (HO8.out.lt g hg).1); rw [List.nil_append, Nat.zero_add, ← List.map_append, HAB.out] at hown9; obtain ⟨A9, c9, hv9, hr9⟩ := own_any5 hown9; subst hv9; have HR9 := Lib.hid hr9; clear hown9 hgr9 hr9)
      | (go_at_call 16; (with_reducible refine (rsame5_yes A9 A6 (na.length + nb.length) c9 c6 (zs (na ++ nb)) w9 HR9.out (HR6.out.on hb9) ((zs_length _).trans HLL.out) (by have := HLA.out; have := HLB.out; omega)).mono ?_); rintro e w10 ⟨rfl, hb10⟩; have hB10 := stp (stp hB6 hb9) hb10)
      | fail)
    go_ret
    exact ⟨rfl, hB10⟩
set_option maxHeartbeats 4000000 in
set_option maxRecDepth 100000 in
theorem walk0 (a b s : ByteArray) (k : Nat) (w : World) (h0 : a.size ≤ 1000) (h1 : b.size ≤ 1000) (hs : a ++ b = s) (hsz : s.size = a.size + b.size) (na nb : List Nat) (ha : pts a.data.toList = some na) (hb : pts b.data.toList = some nb) (hab : pts s.data.toList = some (na ++ nb)) (hk : k < s.size) (p m : Nat) (hn : nextR (s.data.toList.drop k) = (p, m, 0)) (u v : ByteArray) (hu : s.extract 0 k = u) (hv : s.extract k s.size = v) (hcu : chkE u = 0) (hcv : chkE v = 0) (hus : u.size ≤ 1000000) (hvs : v.size ≤ 1000000) :
    Calls Try.prog 8 #[.string a, .string b, .int .i64 k] w fun e w' => e = .returned (.bool true) ∧ Below w.heap.size w w' := by
  have t0 : decide ((1000 : Int) < (a.size : Int)) = false := by simp; omega
  have t1 : decide ((1000 : Int) < (b.size : Int)) = false := by simp; omega
  obtain ⟨i0, hi, hz0, hz1, hz2⟩ := info_parts infoZ
  have HI := Lib.hid hi
  have HZ0 := Lib.hid hz0
  have HZ1 := Lib.hid hz1
  have HZ2 := Lib.hid hz2
  have HA : Hid (a.size ≤ 1000000) := Lib.hid (by omega)
  have HB : Hid (b.size ≤ 1000000) := Lib.hid (by omega)
  have HS : Hid (s.size ≤ 1000000) := Lib.hid (by omega)
  have HA2 : Hid (a.size ≤ 16384) := Lib.hid (by omega)
  have HB2 : Hid (b.size ≤ 16384) := Lib.hid (by omega)
  have HS2 : Hid (s.size ≤ 16384) := Lib.hid (by omega)
  have HCA := Lib.hid (chk_pts ha HA2.out)
  have HCB := Lib.hid (chk_pts hb HB2.out)
  have HPA := Lib.hid ha
  have HPB := Lib.hid hb
  have HPS := Lib.hid hab
  have la := pts_le ha
  have lb := pts_le hb
  have HLA : Hid (na.length ≤ 1000) := Lib.hid (by omega)
  have HLB : Hid (nb.length ≤ 1000) := Lib.hid (by omega)
  have HAB : Hid (zs na ++ zs nb = zs (na ++ nb)) := Lib.hid (zs_append na nb).symm
  have HLL : Hid ((na ++ nb).length = na.length + nb.length) := Lib.hid (List.length_append ..)
  have hcat : ∀ W, (Op.stringOp .add a b).run Try.prog W = .ok (.string s) W := fun W => by rw [run_string_add W a b (by omega) (by omega), hs]
  have HK := Lib.hid hk
  have HN := Lib.hid hn
  have HCU := Lib.hid hcu
  have HCV := Lib.hid hcv
  have HUS := Lib.hid hus
  have HVS := Lib.hid hvs
  have d0 : decide ((k : Int) < 0) = false := by simp
  have d1 : decide ((s.size : Int) ≤ (k : Int)) = false := by simp; omega
  have b0 : (0 : Int) ≤ (k : Int) ∧ (k : Int) ≤ (s.size : Int) := by omega
  have b1 : k ≤ s.size := by omega
  clear hi hz0 hz1 hz2 ha hb hab la lb hs hsz h0 h1 hn hcu hcv hus hvs
  go_enter Try.func8, Try.ntmps8
  go_wp2_with (first
    | (go_at_call 12; (with_reducible refine (alive5 w).mono ?_); rintro e w1 ⟨rfl, hb1⟩)
    | (go_at_call 9; (with_reducible refine (check5 a w1 HA.out 0 HCA.out).mono ?_); rintro e w2 ⟨rfl, hb2⟩; have hB2 := stp hb1 hb2)
    | (go_at_call 9; (with_reducible refine (check5 b w2 HB.out 0 HCB.out).mono ?_); rintro e w3 ⟨rfl, hb3⟩; have hB3 := stp hB2 hb3)
    | (go_at_call 14; (with_reducible refine (points5_ok a na w3 HA2.out HPA.out).mono ?_); rintro e w4 ⟨hb4, A4, c4, rfl, hz4, hr4⟩; have hB4 := stp hB3 hb4; have HR4 := Lib.hid hr4; have HZ4 := Lib.hid hz4; clear hr4 hz4)
    | (go_at_call 14; (with_reducible refine (points5_ok b nb w4 HB2.out HPB.out).mono ?_); rintro e w5 ⟨hb5, A5, c5, rfl, hz5, hr5⟩; have hB5 := stp hB4 hb5; have HR5 := Lib.hid hr5; have HZ5 := Lib.hid hz5; have HR45 := Lib.hid (HR4.out.on hb5); clear hr5 hz5)
    | (go_at_call 14; (with_reducible refine (points5_ok s (na ++ nb) w5 HS2.out HPS.out).mono ?_); rintro e w6 ⟨hb6, A6, c6, rfl, hz6, hr6⟩; rw [HLL.out]; have hB6 := stp hB5 hb6; have HR6 := Lib.hid hr6; clear hr6 hz6; have HR46 := Lib.hid (HR45.out.on hb6); have HR56 := Lib.hid (HR5.out.on hb6); have HE : Hid ((w6.alloc (.cells #[] 3)).ownsRow w6.heap.size 3 1 (.slice (some ⟨w6.heap.size, 0, none⟩) 0 0) 0 []) := Lib.hid (World.ownsRow_made w6 #[] 0 (Nat.le_refl _) (by decide) rfl); have hb7 := stpA (Below.refl w6.heap.size w6) (.cells #[] 3))
    | (at_builtin; refine wpList_guarded rfl ?_; refine wpList_append_rdg encZ_one rfl (.tmp 71) (.tmp 72) 28 rfl w6.heap.size 3 i0 (.int .i64 0) 8 Try.underlying28 HI.out HZ0.out HZ1.out HZ2.out (by decide) rfl _ 0 _ rfl HE.out w6.heap.size A4 na.length c4 (zs na) rfl (HR46.out.below hb7) (zs_length na) HZ4.out (by have := HLA.out; omega) hb7.size ?_; intro v8 w8 hown8 hgr8; have HO8 := Lib.hid hown8; have hb8 := hb7.grown hgr8 hb7.size (fun g hg => (HE.out.lt g hg).1); clear hown8 hgr8)
    | (at_builtin; refine wpList_guarded rfl ?_; refine wpList_append_rdg encZ_one rfl (.tmp 73) (.tmp 74) 28 rfl w6.heap.size 3 i0 (.int .i64 0) 8 Try.underlying28 HI.out HZ0.out HZ1.out HZ2.out (by decide) rfl _ _ _ rfl HO8.out w6.heap.size A5 nb.length c5 (zs nb) rfl (HR56.out.below hb8) (zs_length nb) HZ5.out (by have := HLA.out; have := HLB.out; omega) hb8.size ?_; intro v9 w9 hown9 hgr9; have hb9 := hb8.grown hgr9 hb8.size (fun g hg => (HO8.out.lt g hg).1); rw [List.nil_append, Nat.zero_add, ← List.map_append, HAB.out] at hown9; obtain ⟨A9, c9, hv9, hr9⟩ := own_any5 hown9; subst hv9; have HR9 := Lib.hid hr9; clear hown9 hgr9 hr9)
    | (go_at_call 16; (with_reducible refine (rsame5_yes A9 A6 (na.length + nb.length) c9 c6 (zs (na ++ nb)) w9 HR9.out (HR6.out.on hb9) ((zs_length _).trans HLL.out) (by have := HLA.out; have := HLB.out; omega)).mono ?_); rintro e w10 ⟨rfl, hb10⟩; have hB10 := stp (stp hB6 hb9) hb10)
    | (go_at_call 10; (with_reducible refine (next5 s k w10 HS.out HK.out p m 0 HN.out).mono ?_); rintro e w11 ⟨rfl, hb11⟩; have hB11 := stp hB10 hb11)
    | (go_at_call 9; (with_reducible refine (check5 u w11 HUS.out 0 HCU.out).mono ?_); rintro e w12 ⟨rfl, hb12⟩; have hB12 := stp hB11 hb12)
    | (go_at_call 9; (with_reducible refine (check5 v w12 HVS.out 0 HCV.out).mono ?_); rintro e w13 ⟨rfl, hb13⟩; have hB13 := stp hB12 hb13)
    | fail)
  go_ret
  exact ⟨rfl, hB13⟩
set_option maxHeartbeats 4000000 in
set_option maxRecDepth 100000 in
theorem walk50 (a b s : ByteArray) (k : Nat) (w : World) (h0 : a.size ≤ 1000) (h1 : b.size ≤ 1000) (hs : a ++ b = s) (hsz : s.size = a.size + b.size) (na nb : List Nat) (ha : pts a.data.toList = some na) (hb : pts b.data.toList = some nb) (hab : pts s.data.toList = some (na ++ nb)) (hk : k < s.size) (p m : Nat) (hn : nextR (s.data.toList.drop k) = (p, m, 50)) (u v : ByteArray) (hu : s.extract 0 k = u) (hv : s.extract k s.size = v) (hcu : chkE u = 50) (hcv : chkE v = 50) (hus : u.size ≤ 1000000) (hvs : v.size ≤ 1000000) :
    Calls Try.prog 8 #[.string a, .string b, .int .i64 k] w fun e w' => e = .returned (.bool true) ∧ Below w.heap.size w w' := by
  have t0 : decide ((1000 : Int) < (a.size : Int)) = false := by simp; omega
  have t1 : decide ((1000 : Int) < (b.size : Int)) = false := by simp; omega
  obtain ⟨i0, hi, hz0, hz1, hz2⟩ := info_parts infoZ
  have HI := Lib.hid hi
  have HZ0 := Lib.hid hz0
  have HZ1 := Lib.hid hz1
  have HZ2 := Lib.hid hz2
  have HA : Hid (a.size ≤ 1000000) := Lib.hid (by omega)
  have HB : Hid (b.size ≤ 1000000) := Lib.hid (by omega)
  have HS : Hid (s.size ≤ 1000000) := Lib.hid (by omega)
  have HA2 : Hid (a.size ≤ 16384) := Lib.hid (by omega)
  have HB2 : Hid (b.size ≤ 16384) := Lib.hid (by omega)
  have HS2 : Hid (s.size ≤ 16384) := Lib.hid (by omega)
  have HCA := Lib.hid (chk_pts ha HA2.out)
  have HCB := Lib.hid (chk_pts hb HB2.out)
  have HPA := Lib.hid ha
  have HPB := Lib.hid hb
  have HPS := Lib.hid hab
  have la := pts_le ha
  have lb := pts_le hb
  have HLA : Hid (na.length ≤ 1000) := Lib.hid (by omega)
  have HLB : Hid (nb.length ≤ 1000) := Lib.hid (by omega)
  have HAB : Hid (zs na ++ zs nb = zs (na ++ nb)) := Lib.hid (zs_append na nb).symm
  have HLL : Hid ((na ++ nb).length = na.length + nb.length) := Lib.hid (List.length_append ..)
  have hcat : ∀ W, (Op.stringOp .add a b).run Try.prog W = .ok (.string s) W := fun W => by rw [run_string_add W a b (by omega) (by omega), hs]
  have HK := Lib.hid hk
  have HN := Lib.hid hn
  have HCU := Lib.hid hcu
  have HCV := Lib.hid hcv
  have HUS := Lib.hid hus
  have HVS := Lib.hid hvs
  have d0 : decide ((k : Int) < 0) = false := by simp
  have d1 : decide ((s.size : Int) ≤ (k : Int)) = false := by simp; omega
  have b0 : (0 : Int) ≤ (k : Int) ∧ (k : Int) ≤ (s.size : Int) := by omega
  have b1 : k ≤ s.size := by omega
  clear hi hz0 hz1 hz2 ha hb hab la lb hs hsz h0 h1 hn hcu hcv hus hvs
  go_enter Try.func8, Try.ntmps8
  go_wp2_with (first
    | (go_at_call 12; (with_reducible refine (alive5 w).mono ?_); rintro e w1 ⟨rfl, hb1⟩)
    | (go_at_call 9; (with_reducible refine (check5 a w1 HA.out 0 HCA.out).mono ?_); rintro e w2 ⟨rfl, hb2⟩; have hB2 := stp hb1 hb2)
    | (go_at_call 9; (with_reducible refine (check5 b w2 HB.out 0 HCB.out).mono ?_); rintro e w3 ⟨rfl, hb3⟩; have hB3 := stp hB2 hb3)
    | (go_at_call 14; (with_reducible refine (points5_ok a na w3 HA2.out HPA.out).mono ?_); rintro e w4 ⟨hb4, A4, c4, rfl, hz4, hr4⟩; have hB4 := stp hB3 hb4; have HR4 := Lib.hid hr4; have HZ4 := Lib.hid hz4; clear hr4 hz4)
    | (go_at_call 14; (with_reducible refine (points5_ok b nb w4 HB2.out HPB.out).mono ?_); rintro e w5 ⟨hb5, A5, c5, rfl, hz5, hr5⟩; have hB5 := stp hB4 hb5; have HR5 := Lib.hid hr5; have HZ5 := Lib.hid hz5; have HR45 := Lib.hid (HR4.out.on hb5); clear hr5 hz5)
    | (go_at_call 14; (with_reducible refine (points5_ok s (na ++ nb) w5 HS2.out HPS.out).mono ?_); rintro e w6 ⟨hb6, A6, c6, rfl, hz6, hr6⟩; rw [HLL.out]; have hB6 := stp hB5 hb6; have HR6 := Lib.hid hr6; clear hr6 hz6; have HR46 := Lib.hid (HR45.out.on hb6); have HR56 := Lib.hid (HR5.out.on hb6); have HE : Hid ((w6.alloc (.cells #[] 3)).ownsRow w6.heap.size 3 1 (.slice (some ⟨w6.heap.size, 0, none⟩) 0 0) 0 []) := Lib.hid (World.ownsRow_made w6 #[] 0 (Nat.le_refl _) (by decide) rfl); have hb7 := stpA (Below.refl w6.heap.size w6) (.cells #[] 3))
    | (at_builtin; refine wpList_guarded rfl ?_; refine wpList_append_rdg encZ_one rfl (.tmp 71) (.tmp 72) 28 rfl w6.heap.size 3 i0 (.int .i64 0) 8 Try.underlying28 HI.out HZ0.out HZ1.out HZ2.out (by decide) rfl _ 0 _ rfl HE.out w6.heap.size A4 na.length c4 (zs na) rfl (HR46.out.below hb7) (zs_length na) HZ4.out (by have := HLA.out; omega) hb7.size ?_; intro v8 w8 hown8 hgr8; have HO8 := Lib.hid hown8; have hb8 := hb7.grown hgr8 hb7.size (fun g hg => (HE.out.lt g hg).1); clear hown8 hgr8)
    | (at_builtin; refine wpList_guarded rfl ?_; refine wpList_append_rdg encZ_one rfl (.tmp 73) (.tmp 74) 28 rfl w6.heap.size 3 i0 (.int .i64 0) 8 Try.underlying28 HI.out HZ0.out HZ1.out HZ2.out (by decide) rfl _ _ _ rfl HO8.out w6.heap.size A5 nb.length c5 (zs nb) rfl (HR56.out.below hb8) (zs_length nb) HZ5.out (by have := HLA.out; have := HLB.out; omega) hb8.size ?_; intro v9 w9 hown9 hgr9; have hb9 := hb8.grown hgr9 hb8.size (fun g hg => (HO8.out.lt g hg).1); rw [List.nil_append, Nat.zero_add, ← List.map_append, HAB.out] at hown9; obtain ⟨A9, c9, hv9, hr9⟩ := own_any5 hown9; subst hv9; have HR9 := Lib.hid hr9; clear hown9 hgr9 hr9)
    | (go_at_call 16; (with_reducible refine (rsame5_yes A9 A6 (na.length + nb.length) c9 c6 (zs (na ++ nb)) w9 HR9.out (HR6.out.on hb9) ((zs_length _).trans HLL.out) (by have := HLA.out; have := HLB.out; omega)).mono ?_); rintro e w10 ⟨rfl, hb10⟩; have hB10 := stp (stp hB6 hb9) hb10)
    | (go_at_call 10; (with_reducible refine (next5 s k w10 HS.out HK.out p m 50 HN.out).mono ?_); rintro e w11 ⟨rfl, hb11⟩; have hB11 := stp hB10 hb11)
    | (go_at_call 9; (with_reducible refine (check5 u w11 HUS.out 50 HCU.out).mono ?_); rintro e w12 ⟨rfl, hb12⟩; have hB12 := stp hB11 hb12)
    | (go_at_call 9; (with_reducible refine (check5 v w12 HVS.out 50 HCV.out).mono ?_); rintro e w13 ⟨rfl, hb13⟩; have hB13 := stp hB12 hb13)
    | fail)
  go_ret
  exact ⟨rfl, hB13⟩
theorem walk (a b : ByteArray) (a2 : Int) (w : World) (w0 : a.size ≤ maxLen) (w1 : b.size ≤ maxLen) (w2 : (Lit.int .i64 a2).wf = true) :
    Calls Try.prog 8 #[.string a, .string b, .int .i64 a2] w fun e w' => e = .returned (.bool true) ∧ Below w.heap.size w w' := by
  by_cases h : 1000 < a.size ∨ (a.size ≤ 1000 ∧ 1000 < b.size)
  · exact walkOut a b a2 w w0 w1 h
  · by_cases hne : chkE a ≠ 0 ∨ (chkE a = 0 ∧ chkE b ≠ 0)
    · exact walkBad a b a2 w (by omega) (by omega) _ _ rfl rfl hne
    · obtain ⟨na, hpa, _⟩ := chk_ok (s := a) (by omega)
      obtain ⟨nb, hpb, _⟩ := chk_ok (s := b) (by omega)
      obtain ⟨e1, e2⟩ := (pts_iff _ _).1 hpa
      obtain ⟨e3, e4⟩ := (pts_iff _ _).1 hpb
      have hpab : pts (a ++ b).data.toList = some (na ++ nb) := by
        rw [cat_list, e1, e3, ← encs_append]
        exact pts_encs (mays_append.2 ⟨e2, e4⟩)
      have hsz : (a ++ b).size = a.size + b.size := ByteArray.size_append
      by_cases hf : a2 < 0 ∨ (((a ++ b).size : Nat) : Int) ≤ a2
      · exact walkFar a b _ a2 w (by omega) (by omega) rfl hsz na nb hpa hpb hpab hf
      · obtain ⟨k, rfl⟩ : ∃ k : Nat, a2 = (k : Int) := ⟨a2.toNat, by omega⟩
        have hk : k < (a ++ b).size := by omega
        have h3 : ((a ++ b).extract 0 k).size ≤ 1000000 := by rw [extract_take, size_mk5, List.length_take, ba_len5]; omega
        have h4 : ((a ++ b).extract k (a ++ b).size).size ≤ 1000000 := by rw [extract_drop, size_mk5, List.length_drop, ba_len5]; omega
        obtain ⟨p, m, ⟨c1, c2, c3⟩ | ⟨c1, c2, c3⟩⟩ := cut_at hpab (by omega) k hk
        · exact walk0 a b _ k w (by omega) (by omega) rfl hsz na nb hpa hpb hpab hk p m c1 _ _ rfl rfl c2 c3 h3 h4
        · exact walk50 a b _ k w (by omega) (by omega) rfl hsz na nb hpa hpb hpab hk p m c1 _ _ rfl rfl c2 c3 h3 h4

set_option maxRecDepth 100000 in
theorem lifted (os : Os) (started : os.Started) (H : Type) (enc : TypeId × Value → H) :
    ReturnsInHanded {} Try.checked os 8 .any (Rows.textCutsSpec.pre6 enc Try.prog Try.f8 Rows.textCutsRow.domain false) (Rows.textCutsSpec.post enc Try.prog Try.f8 false true false false) := by
  refine returnsInHanded_of_change (C := Try.checked) own started (by kernel_rfl) Try.func8
    (ChangeSpec.witness6 (enc := enc) (C := Try.checked) false ⟨#[], #[.string ByteArray.empty, .string ByteArray.empty, .int .i64 0], []⟩ 8 (by kernel_rfl) (by kernel_rfl) (by kernel_rfl) (by kernel_rfl)) ?_
  intro W base args ds gs before hval0 hW hcnd _
  have hval : ∀ (j : Nat) t v, Try.f8.params[j]? = some t → args[j]? = some v → Value.okWide Try.prog W .any base t v := hval0
  have hW' := hW
  obtain ⟨p, q, hA0, hV, rfl, hfz, hnd⟩ := hW
  have hA : DataW.TrodAll enc Try.prog W 0 (fun _ => true) true Try.f8.params.toList args.toList ds p := hA0
  rw [Try.params8] at hA hval
  obtain ⟨v0, vs0, d0, ds0, p0, q0, hargs, rfl, rfl, h0, r0⟩ := trodAll_cons hA
  obtain ⟨v1, vs1, d1, ds1, p1, q1, rfl, rfl, rfl, h1, r1⟩ := trodAll_cons r0
  obtain ⟨v2, vs2, d2, ds2, p2, q2, rfl, rfl, rfl, h2, r2⟩ := trodAll_cons r1
  obtain ⟨rfl, rfl, rfl⟩ := trodAll_nil r2
  obtain rfl : args = #[v0, v1, v2] := by cases args; simp_all
  obtain ⟨rfl, rfl⟩ := trodVars_none hV
  obtain ⟨a0, rfl, rfl, rfl, w0⟩ := open_string Try.underlying9 (hval 0 9 v0 rfl rfl) h0
  obtain ⟨a1, rfl, rfl, rfl, w1⟩ := open_string Try.underlying9 (hval 1 9 v1 rfl rfl) h1
  obtain ⟨a2, rfl, rfl, rfl, w2⟩ := open_int Try.underlying3 (hval 2 3 v2 rfl rfl) h2
  clear hA0 hval0
  refine (walk a0 a1 a2 W w0 w1 w2).mono fun e W' ⟨he, bel⟩ => ?_
  subst he
  exact ⟨_, rfl, _, _, _, [], _, [], hW', trodAll_mk1 (shut_bool Try.underlying4 _), (trodAll_cons_mk (shut_string Try.underlying9 w0) (trodAll_cons_mk (shut_string Try.underlying9 w1) (trodAll_cons_mk (shut_int Try.underlying3 w2) trodAll_mk0))), rfl, bel.frame _, fun h => by cases h⟩

theorem over : Rows.textCutsRow.holds Try.pinned (OpenSpec.ofChange Rows.textCutsSpec) :=
  OpenClaim.holds_of_wide 8 Try.f8 rfl rfl rfl rfl rfl rfl rfl ⟨rfl, rfl, rfl, rfl, rfl⟩ rfl rfl rfl rfl rfl (by kernel_rfl) Try.func8 (by kernel_rfl)
    (of_decide_eq_true (by kernel_rfl)) (by unfold Func.isWrapper; first | (rw [if_pos (by decide +kernel)]; kernel_rfl) | (rw [if_neg (by decide +kernel)]; exact ⟨rfl, rfl⟩))
    (fun os started H enc _ => lifted os started H enc)

theorem proved : Rows.TextCutsSaid := over
end Go.Proofs.Ytjpebnnifbnjjaa.textCuts
