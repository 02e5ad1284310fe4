/-
  Texts of one seat, put together: WordM, MemG, TextT, TextU.
-/
import Derived.Laws.BitsAllLaws
import Derived.Test.YteobcohjikjalaaGreatDoorSp00
import Derived.Deep.AppendLies
import Derived.Test.YteobcohjikjalaaGreatDoorSp05
set_option linter.unusedSimpArgs false
namespace Go.Proofs.YteobcohjikjalaaGreatDoor
namespace Wd
open Go

abbrev W32 := BitVec 32






def bt (x : W32) (i : Nat) : Nat := x.toNat / 2 ^ i % 2



def w4 (x : W32) : List UInt8 := [(x.toNat / 16777216).toUInt8, (x.toNat / 65536 % 256).toUInt8, (x.toNat / 256 % 256).toUInt8, (x.toNat % 256).toUInt8]

def pw (b : List UInt8) (j : Nat) : Nat → Nat
  | 0 => 0
  | r + 1 => 256 * pw b j r + (b.getD (4 * j + r) 0).toNat
def wordL (b : List UInt8) : List W32 := (List.range (b.length / 4)).map fun j => BitVec.ofNat 32 (pw b j 4)
end Wd
end Go.Proofs.YteobcohjikjalaaGreatDoor
set_option linter.unusedSimpArgs false
namespace Go.Proofs.YteobcohjikjalaaGreatDoor
open Go.RowKit
namespace Hx

def RdG {α : Type} (enc : α → Value) (w : World) (B : Nat) (A : Option Addr) (l : List α) : Prop :=
  0 < l.length → ∃ b off, A = some ⟨b, off, none⟩ ∧ b < B ∧ ∀ j (h : j < l.length), w.cell? ⟨b, off + j, none⟩ = some (enc (l[j]'h))

section
variable {α : Type} {enc : α → Value}
theorem RdG.keep {w w' : World} {B B' : Nat} {A : Option Addr} {l : List α} (h : RdG enc w B A l) (hB : B ≤ B') (hk : ∀ b o, b < B → w'.cell? ⟨b, o, none⟩ = w.cell? ⟨b, o, none⟩) : RdG enc w' B' A l := by
  intro hp
  obtain ⟨b, off, e, hb, hc⟩ := h hp
  exact ⟨b, off, e, by omega, fun j hj => (hk _ _ hb).trans (hc j hj)⟩
theorem RdG.below {w w' : World} {B : Nat} {A : Option Addr} {l : List α} (h : RdG enc w B A l) (hb : Below B w w') : RdG enc w' B A l :=
  h.keep (Nat.le_refl _) fun b o hlt => hb.cell (p := ⟨b, o, none⟩) hlt
theorem RdG.mono {w : World} {B B' : Nat} {A : Option Addr} {l : List α} (h : RdG enc w B A l) (hB : B ≤ B') : RdG enc w B' A l := h.keep hB fun _ _ _ => rfl
theorem RdG.on {w w' : World} {A : Option Addr} {l : List α} (h : RdG enc w w.heap.size A l) (hb : Below w.heap.size w w') : RdG enc w' w'.heap.size A l := (h.below hb).mono hb.size
theorem RdG.nil (w : World) (B : Nat) (A : Option Addr) : RdG enc w B A [] := fun h => absurd h (by simp)
theorem RdG.of_own {w : World} {base : Nat} {e : TypeId} {A : Option Addr} {n c : Nat} {l : List α} (h : w.ownsRow base e 1 (.slice A n c) n (l.map enc)) : RdG enc w w.heap.size A l ∧ l.length = n := by
  have hl : l.length = n := by have := h.1; rw [List.length_map] at this; omega
  refine ⟨fun hp => ?_, hl⟩
  rcases h.2 with ⟨_, h0⟩ | ⟨g, cap, cur, hv, _, hg, _⟩
  · omega
  injection hv with hA _ _
  subst hA
  have hlt : g < w.heap.size := (Array.getElem?_eq_some_iff.1 hg).1
  refine ⟨g, 0, rfl, hlt, fun j hj => ?_⟩
  have := h.cells (g := g) rfl j (enc (l[j]'hj)) (by simp [hj])
  rw [addr_plain] at this
  exact this
theorem RdG.new (w : World) (t : TypeId) (l : List α) : RdG enc (w.alloc (.cells (l.map enc).toArray t)) (w.heap.size + 1) (some ⟨w.heap.size, 0, none⟩) l := by
  intro _
  refine ⟨_, _, rfl, Nat.lt_succ_self _, fun j hj => ?_⟩
  rw [World.cell?_alloc_new]
  simp [hj]
theorem RdG.newS (w : World) (t : TypeId) (l : List α) : RdG enc (w.alloc (.cells (l.map enc).toArray t)) (w.alloc (.cells (l.map enc).toArray t)).heap.size (some ⟨w.heap.size, 0, none⟩) l :=
  (RdG.new w t l).mono (by simp)
end

theorem wpList_append_rdg {α : Type} {enc : α → Value} (h1c : ∀ x, (enc x).oneCell' = true) {P : Program} {w : World} {ops : Array Oper} {rest : List Oper} {o : Oper} {a : Act} {Q : Exit → Act → World → Prop} (hgd : o.guard = none) (s x : Operand) (t : TypeId)
    (ho : o.op = .call { callee := .builtin .append, args := #[s, x], argTypes := #[t, t] })
    (base : Nat) (e : TypeId) (i : TypeInfo) (z : Value) (bytes : Nat) (ht : P.underlying t = some (.slice e)) (hi : P.info? e = some i) (hz : i.zero = some z) (hsize : i.size = 1) (hby : i.bytes = bytes) (hb8 : bytes ≤ 16) (hzs : z.cells.size = 1)
    (v : Value) (n : Nat) (xs : List Value) (hs : a.eval s = v) (hown : w.ownsRow base e 1 v n xs)
    (B : Nat) (A : Option Addr) (m c : Nat) (l : List α) (hx : a.eval x = .slice A m c) (hr : RdG enc w B A l) (hl : l.length = m) (hc0 : A = none → c = 0) (hb : n + m ≤ 1000000000000) (hbase : base ≤ w.heap.size)
    (h : ∀ v' w', w'.ownsRow base e 1 v' (n + m) (xs ++ l.map enc) → w.grownBy w' v.ownBlock → wpList P ops Q rest (a.put o.dst v') w') : wpList P ops Q (o :: rest) a w := by
  rcases A with _ | ad
  · have h0 : l = [] := by
      rcases Nat.eq_zero_or_pos l.length with h0 | h0
      · exact List.eq_nil_of_length_eq_zero h0
      · obtain ⟨_, _, he, _⟩ := hr h0
        cases he
    subst h0
    obtain rfl : 0 = m := hl
    rw [hc0 rfl] at hx
    exact wpList_append_own_none hgd s x t ho base e i 1 ht hi v n xs hs hown hx (h v w (by simpa using hown) (World.grownBy.refl _ _))
  · refine wpList_append_own w hgd s x t ho base e i z 1 bytes ht hi hz hsize hby hzs (by decide) v n xs hs hown ad m c (l.map enc) hx (by rw [List.length_map]; omega) ?_ (fun v hv => by obtain ⟨y, _, rfl⟩ := List.mem_map.1 hv; exact h1c y) (by unfold maxLen; omega) (Nat.le_trans (Nat.mul_le_mul hb hb8) (by decide)) hbase (fun v' w' h1 h2 _ => h v' w' h1 h2)
    intro j u hu
    have hj : j < l.length := by
      have := (List.getElem?_eq_some_iff.1 hu).1
      simpa using this
    obtain ⟨b, off, he, _, hc⟩ := hr (by omega)
    cases he
    rw [addr_plain, hc j hj]
    simpa [hj] using hu



theorem bounds_i64 {n : Int} (h : (Lit.int .i64 n).wf = true) : -9223372036854775808 ≤ n ∧ n ≤ 9223372036854775807 := by
  simp only [Lit.wf, Bool.and_eq_true, decide_eq_true_eq] at h
  have h1 : IntKind.i64.min = -9223372036854775808 := rfl
  have h2 : IntKind.i64.max = 9223372036854775807 := rfl
  omega
end Hx
end Go.Proofs.YteobcohjikjalaaGreatDoor
set_option linter.unusedSimpArgs false
namespace Go.Proofs.YteobcohjikjalaaGreatDoor
open Go.RowKit
namespace Hx
open Tx
set_option maxRecDepth 100000
set_option maxHeartbeats 16000000
set_option linter.unusedVariables false

def encZ (z : Int) : Value := .int .i64 z
theorem encZ_one (z : Int) : (encZ z).oneCell' = true := rfl
abbrev RdZ := @RdG Int encZ
def zs (l : List Nat) : List Int := l.map fun n : Nat => (n : Int)
theorem zs_append (a b : List Nat) : zs (a ++ b) = zs a ++ zs b := by simp [zs]
theorem infoZ : (Tryz.prog.info? 3).map (fun i => (i.zero, i.size, i.bytes)) = some (some (.int .i64 0), 1, 8) := by kernel_rfl
theorem extract_drop (s : ByteArray) (a : Nat) : s.extract a s.size = ⟨(s.data.toList.drop a).toArray⟩ := by
  have := ByteArray.extract_mk s.data.toList a s.size
  rw [← ba_eq5] at this
  rw [this, List.take_of_length_le (by rw [List.length_drop, ba_len5]; omega)]
theorem size_mk5 (l : List UInt8) : (⟨l.toArray⟩ : ByteArray).size = l.length := rfl
theorem one_le {l : List UInt8} {n k : Nat} (h : one l = some (n, k)) : 1 ≤ k ∧ k ≤ l.length ∧ n ≤ 1114111 := by
  obtain ⟨_, hs, rfl, r, rfl⟩ := one_sound h
  exact ⟨(enc_length n).1, by rw [List.length_append]; omega, sv_le hs⟩

def AllTo (l : List UInt8) (w : World) (e : Ending) (w' : World) : Prop := Below w.heap.size w w' ∧
  ((∃ ns A c, pts l = some ns ∧ e = .returned (.tuple #[.slice A ns.length c, .bool true]) ∧ (A = none → c = 0) ∧ RdZ w' w'.heap.size A (zs ns)) ∨ (pts l = none ∧ e = .returned (.tuple #[.slice none 0 0, .bool false])))
def strSize : Value → Nat
  | .string t => t.size
  | _ => 0
theorem all_any (s : ByteArray) (w : World) (hm : s.size ≤ 1000000) : Calls Tryz.prog 73 #[.string s] w (AllTo s.data.toList w) := by
  obtain ⟨i0, hi, hz0, hz1, hz2⟩ := info_parts infoZ
  have QI := Lib.hid hi
  have QZ0 := Lib.hid hz0
  have QZ1 := Lib.hid hz1
  have QZ2 := Lib.hid hz2
  have HM := Lib.hid hm
  clear hi hz0 hz1 hz2 hm
  go_enter Tryz.func73, Tryz.ntmps73
  go_wp2_with fail
  go_loopw [0, 4] (fun sv v wr => ∃ (t : ByteArray) (ns : List Nat), sv = .string t ∧ wr.ownsRow w.heap.size 3 1 v ns.length ((zs ns).map encZ) ∧ Below w.heap.size w wr ∧ pts s.data.toList = (pts t.data.toList).map (ns ++ ·) ∧ ns.length + t.size ≤ s.size) (fun sv _ _ => strSize sv)
  case atStart => exact ⟨s, [], rfl, World.ownsRow_nil _ _ _ _, Below.refl _ _, by cases pts s.data.toList <;> rfl, by simp⟩
  case round =>
    obtain ⟨t, ns, rfl, hown, hbw, hp, hn⟩ := hrel
    have HO := Lib.hid hown
    have HBW := Lib.hid hbw
    have HP := Lib.hid hp
    have HN := Lib.hid hn
    have hsz := hbw.size
    clear hbw hp hn
    cases htl : t.data.toList with
    | nil =>
      obtain rfl : t = ⟨#[]⟩ := by rw [ba_eq5 t, htl]
      obtain ⟨A', c', rfl⟩ := own_form hown
      have HRD := Lib.hid (RdG.of_own hown).1
      have HZN : Hid (A' = none → c' = 0) := by
        intro hA
        subst hA
        rcases HO.out.2 with ⟨e, _⟩ | ⟨g, cap, cur, e, _⟩
        · injection e with _ _ h3
        · injection e with h3 _ _
          cases h3
      clear hown htl
      go_wp2_with fail
      go_ret2
      exact ⟨HBW.out, .inl ⟨ns, A', c', by rw [HP.out]; show some (ns ++ []) = _; rw [List.append_nil], rfl, HZN.out, HRD.out⟩⟩
    | cons b r =>
      have htz : 0 < t.size := by rw [← ba_len5, htl]; simp
      have hne : (t.toList == (⟨#[]⟩ : ByteArray).toList) = false := by
        rw [seq_b5]
        simp only [decide_eq_false_iff_not]
        rintro rfl
        exact absurd htz (by decide)
      have hne2 : (t.toList == []) = false := by rw [ByteArray.toList_eq, htl]; rfl
      have hts : t.size ≤ 1000000 := by have := HN.out; have := HM.out; omega
      have HTS := Lib.hid hts
      have hstep := pts_step t.data.toList (by rw [htl]; simp)
      cases ho : one t.data.toList with
      | none =>
        rw [ho] at hstep
        have hpn : pts s.data.toList = none := by rw [HP.out, hstep]; rfl
        have HPN := Lib.hid hpn
        have HO1 : Hid ((one t.data.toList).getD (0, 0) = (0, 0)) := by show _ = _; rw [ho]; rfl
        have HC : Hid (∀ W : World, Calls Tryz.prog 85 #[.string t] W fun e w' => e = .returned (.tuple #[.int .i64 0, .int .i64 0]) ∧ Below W.heap.size W w') := fun W => one_any t W HTS.out 0 0 HO1.out
        clear htl hstep ho hts hpn hown
        go_wp2_with (first
          | (go_at_call 85; (with_reducible refine (HC.out _).mono ?_); rintro e w1 ⟨rfl, hb1⟩)
          | fail)
        go_ret2
        exact ⟨stp HBW.out hb1, .inr ⟨HPN.out, rfl⟩⟩
      | some x =>
        obtain ⟨n, k⟩ := x
        rw [ho] at hstep
        have hle := one_le ho
        rw [ba_len5] at hle
        obtain ⟨u, hu⟩ : ∃ u, t.extract k t.size = u := ⟨_, rfl⟩
        have hul : u = ⟨(t.data.toList.drop k).toArray⟩ := by rw [← hu]; exact extract_drop t k
        have hud : u.data.toList = t.data.toList.drop k := by rw [hul]
        have hus : u.size + k = t.size := by rw [hul, size_mk5, List.length_drop, ba_len5]; omega
        have HO1 : Hid ((one t.data.toList).getD (0, 0) = (n, k)) := by show _ = _; rw [ho]; rfl
        have HP2 : Hid (pts s.data.toList = (pts u.data.toList).map ((ns ++ [n]) ++ ·)) := by
          show _ = _
          rw [HP.out, hstep, hud]
          cases hq : pts (t.data.toList.drop k) <;> simp [hq]
        have c0 : ((k : Int) == 0) = false := by simp; omega
        have b0 : (0 : Int) ≤ (k : Int) ∧ (k : Int) ≤ (t.size : Int) := by omega
        have b1 : k ≤ t.size := hle.2.1
        have HUS := Lib.hid hus
        have HLE := Lib.hid hle
        clear htl hstep ho hts hul hud hus hle hown
        go_wp2_with (first
          | (go_at_call 85; (with_reducible refine (one_any t wr HTS.out n k HO1.out).mono ?_); rintro e w1 ⟨rfl, hb1⟩; have HB1 := Lib.hid hb1; have hs1 := hb1.size; have HO2 := Lib.hid (own_below HO.out hb1 (Nat.le_refl _)))
          | (at_builtin; refine wpList_append_rdg encZ_one rfl (.tmp 16) (.tmp 18) 73 rfl w.heap.size 3 i0 (.int .i64 0) 8 Tryz.underlying73 QI.out QZ0.out QZ1.out QZ2.out (by decide) rfl _ ns.length _ rfl (own_below HO2.out (stpA (Below.refl w1.heap.size w1) (.cells #[.int .i64 n] 3)) (Nat.le_refl _)) (w1.heap.size + 1) (some ⟨w1.heap.size, 0, none⟩) 1 1 [(n : Int)] rfl (RdG.new (enc := encZ) w1 3 [(n : Int)]) rfl (fun h => by cases h) (by have := HN.out; have := HM.out; omega) (by rw [World.size_alloc]; omega) ?_; intro v4 w4 hown4 hgr4; have HO4 := Lib.hid hown4; have HG4 := Lib.hid hgr4; clear hown4 hgr4)
          | fail)
        have hb4 : Below w.heap.size w w4 := ((stp HBW.out HB1.out).alloc (by omega) _).grown HG4.out (by rw [World.size_alloc]; omega) (fun g hg => (HO.out.lt g hg).1)
        go_roundw
        case rel =>
          refine ⟨u, ns ++ [n], rfl, ?_, hb4, HP2.out, ?_⟩
          · rw [List.length_append, zs_append, List.map_append]
            exact HO4.out
          · have := HN.out
            have := HUS.out
            have := HLE.out
            simp
            omega
        case measure =>
          have := HUS.out
          have := HLE.out
          simp [strSize]
          omega

theorem all_is (s : ByteArray) (w : World) (hm : s.size ≤ 1000000) (b : Bool) (h : (pts s.data.toList).isSome = b) :
    Calls Tryz.prog 73 #[.string s] w fun e w' => Below w.heap.size w w' ∧ ∃ A n c, e = .returned (.tuple #[.slice A n c, .bool b]) := by
  subst h
  refine (all_any s w hm).mono fun e w' ⟨hb, hh⟩ => ⟨hb, ?_⟩
  rcases hh with ⟨ns, A, c, e1, e2, _⟩ | ⟨e1, e2⟩
  · exact ⟨A, _, c, by rw [e2, e1]; rfl⟩
  · exact ⟨none, 0, 0, by rw [e2, e1]; rfl⟩
theorem ris5_any (s : ByteArray) (w : World) (hm : s.size ≤ 1000000) (b : Bool) (h : (pts s.data.toList).isSome = b) :
    Calls Tryz.prog 53 #[.string s] w fun e w' => e = .returned (.bool b) ∧ Below w.heap.size w w' := by
  have HM := Lib.hid hm
  have HB := Lib.hid h
  clear hm h
  go_enter Tryz.func53, Tryz.ntmps53
  go_wp2_with (first
    | (go_at_call 73; (with_reducible refine (all_is s w HM.out b HB.out).mono ?_); rintro e w1 ⟨hb1, A1, n1, c1, rfl⟩)
    | fail)
  go_ret
  exact ⟨rfl, hb1⟩
def chkE (s : ByteArray) : Int := if 16384 < s.size then 4 else if (pts s.data.toList).isSome then 0 else 50
theorem rcheck_any (s : ByteArray) (w : World) (hm : s.size ≤ 1000000) (q : Int) (h : chkE s = q) :
    Calls Tryz.prog 29 #[.string s] w fun e w' => e = .returned (.int .i64 q) ∧ Below w.heap.size w w' := by
  unfold chkE at h
  have HM := Lib.hid hm
  by_cases h1 : 16384 < s.size
  · rw [if_pos h1] at h
    subst h
    have d0 : decide ((16384 : Int) < (s.size : Int)) = true := by simp; omega
    clear hm
    go_enter Tryz.func29, Tryz.ntmps29
    go_wp2
    go_ret
    exact ⟨rfl, Below.refl _ _⟩
  · rw [if_neg h1] at h
    have d0 : decide ((16384 : Int) < (s.size : Int)) = false := by simp; omega
    have d1 : ¬ (16384 < s.size) := h1
    cases hp : (pts s.data.toList).isSome
    · rw [hp] at h
      obtain rfl : (50 : Int) = q := h
      have HP := Lib.hid hp
      clear hm h1 hp
      go_enter Tryz.func29, Tryz.ntmps29
      go_wp2_with (go_at_call 53; (with_reducible refine (ris5_any s w HM.out false HP.out).mono ?_); rintro e w1 ⟨rfl, hb1⟩)
      go_ret
      exact ⟨rfl, hb1⟩
    · rw [hp] at h
      obtain rfl : (0 : Int) = q := h
      have HP := Lib.hid hp
      clear hm h1 hp
      go_enter Tryz.func29, Tryz.ntmps29
      go_wp2_with (go_at_call 53; (with_reducible refine (ris5_any s w HM.out true HP.out).mono ?_); rintro e w1 ⟨rfl, hb1⟩)
      go_ret
      exact ⟨rfl, hb1⟩
end Hx
end Go.Proofs.YteobcohjikjalaaGreatDoor
set_option linter.unusedSimpArgs false
namespace Go.Proofs.YteobcohjikjalaaGreatDoor
open Go.RowKit
namespace Hx
open Tx
set_option linter.unusedVariables false


end Hx
end Go.Proofs.YteobcohjikjalaaGreatDoor
