/-
  Texts of one seat, put together: TrhN, TrhO, TrsA, TrsB, SpaW, TrhH.
-/
import Derived.Test.YtlhjcdkkmloamaaGreatDoorSp35
import Derived.Test.YtlhjcdkkmloamaaGreatDoorSp27
import Derived.Test.YtlhjcdkkmloamaaGreatDoorSp30
import Derived.Test.YtlhjcdkkmloamaaGreatDoorSp32
import Derived.Test.YtlhjcdkkmloamaaGreatDoorSp33
import Derived.Test.YtlhjcdkkmloamaaGreatDoorSp34
import Derived.Test.YtlhjcdkkmloamaaGreatDoorSp23
import Derived.Deep.Cut
import Derived.Test.YtlhjcdkkmloamaaGreatDoorSp28
set_option linter.unusedSimpArgs false
namespace Go.Proofs.YtlhjcdkkmloamaaGreatDoor
open Go.RowKit
namespace Hx
open Lx Tr Tx Nmb Es
set_option linter.unusedVariables false
def rdTree (s : List UInt8) : List Nd × Int := if (lexR s).2.2 = 0 then parseR (lexR s).1 else ([], (lexR s).2.2)
theorem ParseTo.with {ts : List Tk} {w w' : World} {e : Ending} {v : List Nd} {q : Int} {n : Nat} (h : ParseTo ts w e w') (hp : parseR ts = (v, q)) (hn : v.length = n) : ∃ A c, e = .returned (.tuple #[.slice A n c, .int .i64 q]) ∧ RdB NdS w' A v ∧ n ≤ c ∧ c ≤ maxLen ∧ (A = none → c = 0) ∧ Below w.heap.size w w' := by
  obtain ⟨v2, q2, A, c, h1, h2, h3, h4, h5, h6, h7⟩ := h
  rw [hp] at h1
  obtain ⟨rfl, rfl⟩ := (Prod.mk.injEq _ _ _ _).mp h1
  exact ⟨A, c, by rw [← hn]; exact h2, h3, by rw [← hn]; exact h4, h5, h6, h7⟩
end Hx
end Go.Proofs.YtlhjcdkkmloamaaGreatDoor
namespace Go.Proofs.YtlhjcdkkmloamaaGreatDoor
open Go.RowKit
namespace Hx
open Lx Tr Tx Nmb Es Ns
set_option maxRecDepth 100000
set_option maxHeartbeats 16000000
set_option linter.unusedVariables false
theorem NodesTo.with {l : List Nd} {z : Int} {w w' : World} {e : Ending} {n : Nat} (h : NodesTo l z w e w') (hn : l.length = n) : ∃ A c, e = .returned (.tuple #[.slice A n c, .int .i64 z]) ∧ RdB NdS w' A l ∧ Below w.heap.size w w' := by
  obtain ⟨A, c, h1, h2, h3⟩ := h
  exact ⟨A, c, by rw [← hn]; exact h1, h2.all, h3⟩
theorem rds_heap {α β : Type} {C : CodS α} {w : World} {S : Nat → Prop} {b : Nat} {cs : Array Value} {T : TypeId} {fr : Nat × Nat} (f : β → List Value) (val : β → α) (hk : ∀ b, (f b).length = C.k) (L : List β) (h : w.heap[b]? = some (.cells cs T fr)) (hcs : cs.toList = L.flatMap f)
    (hR : ∀ x ∈ L, C.R w S (f x) (val x)) (hS : S b) : RdS C w S (some ⟨b, 0, none⟩) (L.map val) := fun _ => by
  refine ⟨b, 0, rfl, hS, fun j hj => ?_⟩
  have hj' : j < L.length := by simpa using hj
  refine ⟨f (L[j]'hj'), by simpa using hR _ (List.getElem_mem hj'), fun i hi => ?_⟩
  have hi' : i < C.k := by rw [hk] at hi; exact hi
  rw [Nat.zero_add, cellV w b _ cs T fr h, ← flat_at f C.k hk L j i hj' hi', ← hcs, Array.getElem?_toList]
theorem ats_heap {w : World} {S : Nat → Prop} {b : Nat} {cs : Array Value} {T : TypeId} {fr : Nat × Nat} (l : List At) (h : w.heap[b]? = some (.cells cs T fr)) (hcs : cs.toList = (l.map abOf).flatMap abCells) (hS : S b) : RdS AtS w S (some ⟨b, 0, none⟩) l := by
  have := rds_heap (C := AtS) abCells abVal (fun _ => rfl) (l.map abOf) h hcs (fun x _ => ab_R w S x) hS
  rwa [map_abOf] at this
theorem nds_heap {w : World} {S : Nat → Prop} {b : Nat} {cs : Array Value} {T : TypeId} {fr : Nat × Nat} (L : List NB) (h : w.heap[b]? = some (.cells cs T fr)) (hcs : cs.toList = L.flatMap nbCells) (hin : ∀ x ∈ L, NdIn x.n x.x x.y x.z x.A x.c w S) (hS : S b) : RdS NdS w S (some ⟨b, 0, none⟩) (L.map NB.n) :=
  rds_heap (C := NdS) nbCells NB.n (fun _ => rfl) L h hcs (fun x hx => ⟨x.x, x.y, x.z, x.A, x.c, rfl, hin x hx⟩) hS
def nbOf (n : Nd) (A : Option Addr) : NB := ⟨n, ⟨n.space.toArray⟩, ⟨n.name.toArray⟩, ⟨n.text.toArray⟩, A, n.attrs.length⟩
theorem nbOf_in {n : Nd} {A : Option Addr} {w : World} {S : Nat → Prop} (hA : RdS AtS w S A n.attrs) (h0 : A = none → n.attrs.length = 0) (h1 : n.kind < 256 ∧ n.attrs.length ≤ 1000 ∧ -9223372036854775808 ≤ n.many ∧ n.many ≤ 9223372036854775807) : NdIn (nbOf n A).n (nbOf n A).x (nbOf n A).y (nbOf n A).z (nbOf n A).A (nbOf n A).c w S :=
  ⟨rfl, rfl, rfl, hA, Nat.le_refl _, by show n.attrs.length ≤ maxLen; unfold maxLen; omega, h0, h1.1, h1.2.2.1, h1.2.2.2⟩
def smallB (k : Nat) (n : Nd) : Bool := decide (n.space.length ≤ k) && decide (n.name.length ≤ k) && decide (n.text.length ≤ k) && decide (n.attrs.length ≤ 400000) && n.attrs.all fun a => decide (a.space.length ≤ k) && decide (a.name.length ≤ k) && decide (a.value.length ≤ k)
theorem smallB_to {k : Nat} {v : List Nd} (h : (v.all (smallB k)) = true) : ∀ n ∈ v, SmallU k n := fun n hn => by
  have h1 := List.all_eq_true.1 h n hn
  unfold smallB at h1
  simp only [Bool.and_eq_true, decide_eq_true_eq, List.all_eq_true, and_assoc] at h1
  obtain ⟨h1, h2, h3, h4, h5⟩ := h1
  exact ⟨h1, h2, h3, h4, h5⟩
theorem SmallU.up {k k' : Nat} {n : Nd} (h : SmallU k n) (hk : k ≤ k') : SmallU k' n :=
  ⟨Nat.le_trans h.space hk, Nat.le_trans h.name hk, Nat.le_trans h.text hk, h.attrs, fun a ha => by obtain ⟨h1, h2, h3⟩ := h.each a ha; exact ⟨Nat.le_trans h1 hk, Nat.le_trans h2 hk, Nat.le_trans h3 hk⟩⟩
theorem lparse11 (s : ByteArray) (w : World) (hm : s.size ≤ 2000) (v : List Nd) (n : Nat) (h : rdTree s.data.toList = (v, 0)) (hn : v.length = n) (hE : Ev9 w := by first | assumption | exact Ev9.to (by assumption) (by assumption)) :
    Calls Tryz.prog 24 #[.string s] w fun e w' => ∃ A c, e = .returned (.tuple #[.slice A n c, .bool true]) ∧ RdB NdS w' A v ∧ Below w.heap.size w w' := by
  obtain ⟨ts, k, er, hl⟩ : ∃ ts k er, lexR s.data.toList = (ts, k, er) := ⟨_, _, _, rfl⟩
  obtain ⟨tn, htn⟩ : ∃ tn, ts.length = tn := ⟨_, rfl⟩
  have HL := Lib.hid (lex9 s w (by omega) ts k er hl)
  rw [htn] at HL
  unfold rdTree at h
  rw [hl] at h
  dsimp only at h
  by_cases h0 : er = 0
  · subst h0
    rw [if_pos rfl] at h
    obtain ⟨ha, _, hl5, _, _⟩ := lexR_all hl (by rw [ba_len5]; exact hm)
    have HP : Hid (∀ A c W, RdC TkC W W.heap.size A ts → Calls Tryz.prog 40 #[.slice A tn c] W fun e w' => ∃ A c, e = .returned (.tuple #[.slice A n c, .int .i64 0]) ∧ RdB NdS w' A v ∧ n ≤ c ∧ c ≤ maxLen ∧ (A = none → c = 0) ∧ Below W.heap.size W w') := Lib.hid fun A c W hW => (parse10 A tn c ts W hW htn (by omega) fun t ht => (ha t ht).2).mono fun e w' hh => hh.with h hn
    clear h hl ha hl5 hm hn htn
    go_enter Tryz.func24, Tryz.ntmps24
    go_wp2_with (first
      | (go_at_call 39; (with_reducible refine (HL.out).mono ?_); rintro e1 w1 ⟨A1, c1, rfl, hi1, hb1⟩; have HI1 := Lib.hid hi1.1; have HB1 := Lib.hid hb1; clear hi1 hb1)
      | (go_at_call 40; (with_reducible refine (HP.out _ _ _ HI1.out).mono ?_); rintro e2 w2 ⟨A2, c2, rfl, hr2, hn2, hc2, hz2, hb2⟩; have HR2 := Lib.hid hr2; have HB2 := Lib.hid (stp HB1.out hb2); clear hr2 hb2 hn2 hc2 hz2)
      | fail)
    go_ret2
    exact ⟨A2, c2, rfl, HR2.out, HB2.out⟩
  · rw [if_neg h0] at h
    injection h with _ h
    exact absurd h h0
theorem is11 (s back : ByteArray) (v u x : List Nd) (A : Option Addr) (c nv nu nx : Nat) (w : World) (hs : s.size ≤ 2000) (hb : back.size ≤ 2000) (h1 : rdTree s.data.toList = (v, 0)) (h2 : resolveR v = (u, 0)) (h3 : bareR u [] = (x, 0)) (h4 : rdTree back.data.toList = (x, 0))
    (l1 : v.length = nv) (l2 : u.length = nu) (l3 : x.length = nx) (hv : (v.all (smallB 2000)) = true) (hlv : nv ≤ 512) (hlu : nu ≤ 512) (hlx : nx ≤ 512) (hr : RdB NdS w A u) (hE : Ev9 w := by first | assumption | exact Ev9.to (by assumption) (by assumption)) (hT : TbH w := by first | assumption | exact TbH.to (by assumption) (by assumption)) :
    Calls Tryz.prog 9 #[.string s, .string back, .slice A nu c] w fun e w' => e = .returned (.bool true) ∧ Below w.heap.size w w' := by
  have sv := smallB_to hv
  have su := resolveR_small (k := 2000) (by decide) sv h2
  have sx := bareR_small (k := 2000) (by decide) su h3
  have HP1 : Hid (∀ W, Below w.heap.size w W → Calls Tryz.prog 24 #[.string s] W fun e w' => ∃ A c, e = .returned (.tuple #[.slice A nv c, .bool true]) ∧ RdB NdS w' A v ∧ Below W.heap.size W w') := Lib.hid fun W hW => lparse11 s W hs v nv h1 l1 (hE.to hW)
  have HP2 : Hid (∀ W, Below w.heap.size w W → Calls Tryz.prog 24 #[.string back] W fun e w' => ∃ A c, e = .returned (.tuple #[.slice A nx c, .bool true]) ∧ RdB NdS w' A x ∧ Below W.heap.size W w') := Lib.hid fun W hW => lparse11 back W hb x nx h4 l3 (hE.to hW)
  have HRS : Hid (∀ A c W, RdB NdS W A v → Calls Tryz.prog 6 #[.slice A nv c] W fun e w' => ∃ A c, e = .returned (.tuple #[.slice A nu c, .int .i64 0]) ∧ RdB NdS w' A u ∧ Below W.heap.size W w') := Lib.hid fun A c W hW => (resolve_to A nv c v W hW l1 (by omega) (fun _ m hm => (sv m hm).up (by decide)) u 0 h2).mono fun e w' hh => hh.with l2
  have HBA : Hid (∀ A c W, Below w.heap.size w W → RdB NdS W A u → Calls Tryz.prog 25 #[.slice A nu c, .string ⟨#[]⟩] W fun e w' => ∃ A c, e = .returned (.tuple #[.slice A nx c, .int .i64 0]) ∧ RdB NdS w' A x ∧ Below W.heap.size W w') := Lib.hid fun A c W hb hW => (bare_to A nu c u ⟨#[]⟩ W hW l2 (by omega) (fun _ m hm => (su m hm).up (by decide)) (by decide) (hT.to hb) x 0 h3).mono fun e w' hh => hh.with l3
  have HS1 : Hid (∀ A c B d W, RdB NdS W A u → RdB NdS W B u → Calls Tryz.prog 26 #[.slice A nu c, .slice B nu d] W fun e w' => e = .returned (.bool true) ∧ Below W.heap.size W w') := Lib.hid fun A c B d W ha hb => rsame10 A B nu c nu d u u W ha l2 hb l2 (by omega) (by omega) (fun t ht => by have := (su t ht).attrs; omega) (fun t ht => by have := (su t ht).attrs; omega) true (decide_eq_true rfl)
  have HS2 : Hid (∀ A c B d W, RdB NdS W A x → RdB NdS W B x → Calls Tryz.prog 26 #[.slice A nx c, .slice B nx d] W fun e w' => e = .returned (.bool true) ∧ Below W.heap.size W w') := Lib.hid fun A c B d W ha hb => rsame10 A B nx c nx d x x W ha l3 hb l3 (by omega) (by omega) (fun t ht => (sx t ht).attrs) (fun t ht => (sx t ht).attrs) true (decide_eq_true rfl)
  have HR := Lib.hid hr
  clear hs hb h1 h2 h3 h4 l1 l2 l3 hv hlv hlu hlx hr sv su sx hE hT
  go_enter Tryz.func9, Tryz.ntmps9
  go_wp2_with (first
    | (go_at_call 24; (with_reducible refine (HP1.out w (Below.refl _ _)).mono ?_); rintro e1 w1 ⟨A1, c1, rfl, hr1, hb1⟩; have HR1 := Lib.hid hr1; have HB1 := Lib.hid hb1; clear hr1 hb1)
    | (go_at_call 6; (with_reducible refine (HRS.out _ _ w1 HR1.out).mono ?_); rintro e2 w2 ⟨A2, c2, rfl, hr2, hb2⟩; have HR2 := Lib.hid hr2; have HB2 := Lib.hid (stp HB1.out hb2); clear hr2 hb2)
    | (go_at_call 25; (with_reducible refine (HBA.out _ _ w2 HB2.out HR2.out).mono ?_); rintro e3 w3 ⟨A3, c3, rfl, hr3, hb3⟩; have HR3 := Lib.hid hr3; have HR23 := Lib.hid (HR2.out.on hb3); have HB3 := Lib.hid (stp HB2.out hb3); clear hr3 hb3)
    | (go_at_call 24; (with_reducible refine (HP2.out w3 HB3.out).mono ?_); rintro e4 w4 ⟨A4, c4, rfl, hr4, hb4⟩; have HR4 := Lib.hid hr4; have HR24 := Lib.hid (HR23.out.on hb4); have HR34 := Lib.hid (HR3.out.on hb4); have HB4 := Lib.hid (stp HB3.out hb4); clear hr4 hb4)
    | (go_at_call 26; (with_reducible refine (HS1.out _ _ _ _ w4 HR24.out (HR.out.on HB4.out)).mono ?_); rintro e5 w5 ⟨rfl, hb5⟩; have HR45 := Lib.hid (HR4.out.on hb5); have HR35 := Lib.hid (HR34.out.on hb5); have HB5 := Lib.hid (stp HB4.out hb5); clear hb5)
    | (go_at_call 26; (with_reducible refine (HS2.out _ _ _ _ w5 HR35.out HR45.out).mono ?_); rintro e6 w6 ⟨rfl, hb6⟩; have HB6 := Lib.hid (stp HB5.out hb6); clear hb6)
    | fail)
  go_ret
  exact ⟨rfl, HB6.out⟩
def alS : List UInt8 := [60, 97, 32, 120, 109, 108, 110, 115, 61, 39, 117, 39, 62, 60, 112, 58, 98, 32, 120, 109, 108, 110, 115, 58, 112, 61, 39, 118, 39, 32, 112, 58, 99, 61, 39, 49, 39, 32, 100, 61, 39, 50, 39, 47, 62, 60, 47, 97, 62]
def alB : List UInt8 := [60, 97, 32, 120, 109, 108, 110, 115, 61, 39, 117, 39, 62, 60, 98, 32, 120, 109, 108, 110, 115, 61, 39, 118, 39, 32, 120, 109, 108, 110, 115, 58, 110, 49, 61, 39, 118, 39, 32, 110, 49, 58, 99, 61, 39, 49, 39, 32, 100, 61, 39, 50, 39, 47, 62, 60, 47, 97, 62]
def alA : List At := [⟨[118], [99], [49]⟩, ⟨[], [100], [50]⟩]
def alU : List Nd := [⟨1, [117], [97], [], [], 1⟩, ⟨1, [118], [98], alA, [], 0⟩]
def alV : List Nd := [⟨1, [], [97], [⟨[], [120, 109, 108, 110, 115], [117]⟩], [], 1⟩, ⟨1, [], [112, 58, 98], [⟨[], [120, 109, 108, 110, 115, 58, 112], [118]⟩, ⟨[], [112, 58, 99], [49]⟩, ⟨[], [100], [50]⟩], [], 0⟩]
def alX : List Nd := [⟨1, [], [97], [⟨[], [120, 109, 108, 110, 115], [117]⟩], [], 1⟩, ⟨1, [], [98], [⟨[], [120, 109, 108, 110, 115], [118]⟩, ⟨[], [120, 109, 108, 110, 115, 58, 110, 49], [118]⟩, ⟨[], [110, 49, 58, 99], [49]⟩, ⟨[], [100], [50]⟩], [], 0⟩]
theorem al11 : rdTree alS = (alV, 0) ∧ resolveR alV = (alU, 0) ∧ bareR alU [] = (alX, 0) ∧ rdTree alB = (alX, 0) ∧ alV.all (smallB 2000) = true := by decide +kernel
theorem alive11 (w : World) (hE : Ev9 w := by first | assumption | exact Ev9.to (by assumption) (by assumption)) (hT : TbH w := by first | assumption | exact TbH.to (by assumption) (by assumption)) :
    Calls Tryz.prog 4 #[] w fun e w' => e = .returned (.bool true) ∧ Below w.heap.size w w' := by
  obtain ⟨W1, hW1⟩ : ∃ W1, w.alloc (.cells #[.string ⟨#[118]⟩, .string ⟨#[99]⟩, .string ⟨#[49]⟩, .string ⟨#[]⟩, .string ⟨#[100]⟩, .string ⟨#[50]⟩] 34) = W1 := ⟨_, rfl⟩
  obtain ⟨W2, hW2⟩ : ∃ W2, W1.alloc (.cells #[.int .u8 1, .string ⟨#[117]⟩, .string ⟨#[97]⟩, .slice none 0 0, .string ⟨#[]⟩, .int .i64 1, .int .u8 1, .string ⟨#[118]⟩, .string ⟨#[98]⟩, .slice (some ⟨w.heap.size, 0, none⟩) 2 2, .string ⟨#[]⟩, .int .i64 0] 32) = W2 := ⟨_, rfl⟩
  have hb1 : Below w.heap.size w W1 := by rw [← hW1]; exact stpA (Below.refl _ _) _
  have hb2 : Below W1.heap.size W1 W2 := by rw [← hW2]; exact stpA (Below.refl _ _) _
  have h1 : W2.heap[w.heap.size]? = some (.cells #[.string ⟨#[118]⟩, .string ⟨#[99]⟩, .string ⟨#[49]⟩, .string ⟨#[]⟩, .string ⟨#[100]⟩, .string ⟨#[50]⟩] 34 (0, 0)) := kept_heap (by rw [← hW1]; exact heap_alloc_new w _) hb2
  have h2 : W2.heap[W1.heap.size]? = some (.cells #[.int .u8 1, .string ⟨#[117]⟩, .string ⟨#[97]⟩, .slice none 0 0, .string ⟨#[]⟩, .int .i64 1, .int .u8 1, .string ⟨#[118]⟩, .string ⟨#[98]⟩, .slice (some ⟨w.heap.size, 0, none⟩) 2 2, .string ⟨#[]⟩, .int .i64 0] 32 (0, 0)) := by rw [← hW2]; exact heap_alloc_new W1 _
  have hra : RdS AtS W2 (fun b => b < W2.heap.size) (some ⟨w.heap.size, 0, none⟩) alA := ats_heap alA h1 rfl (lt_heap h1)
  have hru : RdB NdS W2 (some ⟨W1.heap.size, 0, none⟩) alU := nds_heap [nbOf ⟨1, [117], [97], [], [], 1⟩ none, nbOf ⟨1, [118], [98], alA, [], 0⟩ (some ⟨w.heap.size, 0, none⟩)] h2 rfl (fun x hx => by
    rcases List.mem_cons.1 hx with rfl | hx
    · exact nbOf_in (RdS.nil _ _ _) (fun _ => rfl) (by decide)
    · rw [List.mem_singleton.1 hx]
      exact nbOf_in hra (fun h => by cases h) (by decide)) (lt_heap h2)
  have HI := Lib.hid (is11 ⟨alS.toArray⟩ ⟨alB.toArray⟩ alV alU alX (some ⟨W1.heap.size, 0, none⟩) 2 2 2 2 W2 (by decide) (by decide) al11.1 al11.2.1 al11.2.2.1 al11.2.2.2.1 rfl rfl rfl al11.2.2.2.2 (by decide) (by decide) (by decide) hru (hE.to (stp hb1 hb2)) (hT.to (stp hb1 hb2)))
  have HB := Lib.hid (stp hb1 hb2)
  unfold alS alB at HI
  clear hb1 hb2 h1 h2 hra hru hE hT
  go_enter Tryz.func4, Tryz.ntmps4
  go_wp2_with (first
    | (rw [hW1])
    | (rw [hW2])
    | (go_at_call 9; (with_reducible refine (HI.out).mono ?_); rintro e4 w4 ⟨rfl, hb4⟩; have HB4 := Lib.hid (stp HB.out hb4); clear hb4)
    | fail)
  go_ret
  exact ⟨rfl, HB4.out⟩
end Hx
end Go.Proofs.YtlhjcdkkmloamaaGreatDoor
namespace Go.Proofs.YtlhjcdkkmloamaaGreatDoor
open Go.RowKit
namespace Hx
open Lx Tr Tx Nmb Es
set_option maxRecDepth 100000
set_option maxHeartbeats 16000000
set_option linter.unusedVariables false
def AtV (x y z : ByteArray) : Value := .agg #[.string x, .string y, .string z]
theorem atsame10 (x y z x1 y1 z1 : ByteArray) (w : World) (q : Bool) (h : decide (x = x1 ∧ y = y1 ∧ z = z1) = q) :
    Calls Tryz.prog 23 #[AtV x y z, AtV x1 y1 z1] w fun e w' => e = .returned (.bool q) ∧ Below w.heap.size w w' := by
  unfold AtV
  by_cases hxy : x = x1 ∧ y = y1 ∧ z = z1
  · obtain rfl : true = q := by rw [← h, decide_eq_true hxy]
    obtain ⟨rfl, rfl, rfl⟩ := hxy
    clear h
    go_enter Tryz.func23, Tryz.ntmps23
    go_wp2_with fail
    go_ret
    exact ⟨rfl, stpA (stpA (Below.refl _ _) _) _⟩
  · obtain rfl : false = q := by rw [← h, decide_eq_false hxy]
    have hq : (x.toList == x1.toList) = false ∨ (y.toList == y1.toList) = false ∨ (z.toList == z1.toList) = false := by
      rw [seq_l, seq_l, seq_l]
      simp only [decide_eq_false_iff_not]
      by_cases h5 : x = x1
      · by_cases h6 : y = y1
        · exact .inr (.inr fun e => hxy ⟨h5, h6, ba_x e⟩)
        · exact .inr (.inl fun e => h6 (ba_x e))
      · exact .inl fun e => h5 (ba_x e)
    clear h hxy
    rcases hq with q1 | q1 | q1
    · have q2 : ¬ x.toList = x1.toList := by simpa using q1
      go_enter Tryz.func23, Tryz.ntmps23
      go_wp2_with fail
      go_ret
      exact ⟨rfl, stpA (stpA (Below.refl _ _) _) _⟩
    · have q2 : ¬ y.toList = y1.toList := by simpa using q1
      go_enter Tryz.func23, Tryz.ntmps23
      go_wp2_with fail
      go_ret
      exact ⟨rfl, stpA (stpA (Below.refl _ _) _) _⟩
    · have q2 : ¬ z.toList = z1.toList := by simpa using q1
      go_enter Tryz.func23, Tryz.ntmps23
      go_wp2_with fail
      go_ret
      exact ⟨rfl, stpA (stpA (Below.refl _ _) _) _⟩
theorem ats10 (A A2 : Option Addr) (n cp n2 cp2 : Nat) (l l2 : List At) (w : World) (hr : RdB AtS w A l) (hn : l.length = n) (hr2 : RdB AtS w A2 l2) (hn2 : l2.length = n2) (hm : n ≤ 1000000) (hm2 : n2 ≤ 1000000) (q : Bool) (h : decide (l = l2) = q) :
    Calls Tryz.prog 22 #[.slice A n cp, .slice A2 n2 cp2, .func (.func 23) #[] #[]] w fun e w' => e = .returned (.bool q) ∧ Below w.heap.size w w' := by
  have HR := Lib.hid hr
  have HN := Lib.hid hn
  have HR2 := Lib.hid hr2
  have HN2 := Lib.hid hn2
  have HM := Lib.hid hm
  have HH := Lib.hid h
  clear hr hn hr2 hn2 h
  by_cases hne : n = n2
  · subst hne
    have f0 : ((n : Int) != (n : Int)) = false := by simp
    go_enter Tryz.func22, Tryz.ntmps22
    go_wp2_with fail
    go_loopg [7, 15] n (fun gg x7 i wr => ∃ k : Nat, k + gg = n ∧ i = .int .i64 k ∧ l.take k = l2.take k ∧ Below w.heap.size w wr)
    case atStart => exact ⟨0, by omega, rfl, rfl, Below.refl _ _⟩
    case round =>
      obtain ⟨k, hkg, rfl, hno, hbw⟩ := hrel
      have hm := HM.out
      have HBW := Lib.hid hbw
      by_cases hlt : k < n
      · have hk1 : k < l.length := by rw [HN.out]; exact hlt
        have hk2 : k < l2.length := by rw [HN2.out]; exact hlt
        obtain ⟨b0, off, x, y, z, rfl, hbB, hx, hy, hz, c0, c1, c2⟩ := at3 (HR.out.on hbw) hk1
        obtain ⟨b1, of1, x1, y1, z1, rfl, hbB1, hx1, hy1, hz1, d0, d1, d2⟩ := at3 (HR2.out.on hbw) hk2
        have bk : (0 : Int) ≤ (k : Int) ∧ (k : Int) < (n : Int) := by omega
        have HK : Hid (∀ W, Below wr.heap.size wr W → W.cell? ⟨b0, off + k * 3, none⟩ = some (.string x) ∧ W.cell? ⟨b0, off + k * 3 + 1, none⟩ = some (.string y) ∧ W.cell? ⟨b0, off + k * 3 + 2, none⟩ = some (.string z) ∧ W.cell? ⟨b1, of1 + k * 3, none⟩ = some (.string x1) ∧ W.cell? ⟨b1, of1 + k * 3 + 1, none⟩ = some (.string y1) ∧ W.cell? ⟨b1, of1 + k * 3 + 2, none⟩ = some (.string z1)) := Lib.hid fun W hW =>
          ⟨(hW.cell (p := ⟨b0, _, none⟩) hbB).trans c0, (hW.cell (p := ⟨b0, _, none⟩) hbB).trans c1, (hW.cell (p := ⟨b0, _, none⟩) hbB).trans c2, (hW.cell (p := ⟨b1, _, none⟩) hbB1).trans d0, (hW.cell (p := ⟨b1, _, none⟩) hbB1).trans d1, (hW.cell (p := ⟨b1, _, none⟩) hbB1).trans d2⟩
        have HC : Hid (∀ qq W, decide (x = x1 ∧ y = y1 ∧ z = z1) = qq → Calls Tryz.prog 23 #[.agg #[.string x, .string y, .string z], .agg #[.string x1, .string y1, .string z1]] W fun e w' => e = .returned (.bool qq) ∧ Below W.heap.size W w') := Lib.hid fun qq W hq => atsame10 x y z x1 y1 z1 W qq hq
        clear hbw hbB hbB1
        by_cases hxy : x = x1 ∧ y = y1 ∧ z = z1
        · have HC2 : Hid _ := Lib.hid fun W => HC.out true W (decide_eq_true hxy)
          have HT : Hid (l.take (k + 1) = l2.take (k + 1)) := Lib.hid (take_step hk1 hk2 hno (at_eq (by rw [← hx, ← hx1, hxy.1]) (by rw [← hy, ← hy1, hxy.2.1]) (by rw [← hz, ← hz1, hxy.2.2])))
          clear HC hx hx1 hy hy1 hz hz1 hno hxy
          go_wp2_with fail
          clear c0 c1 c2 d0 d1 d2
          go_region_held3 (fun W => W.cell? ⟨b0, off + k * 3, none⟩ = some (.string x) ∧ W.cell? ⟨b0, off + k * 3 + 1, none⟩ = some (.string y) ∧ W.cell? ⟨b0, off + k * 3 + 2, none⟩ = some (.string z) ∧ W.cell? ⟨b1, of1 + k * 3, none⟩ = some (.string x1) ∧ W.cell? ⟨b1, of1 + k * 3 + 1, none⟩ = some (.string y1) ∧ W.cell? ⟨b1, of1 + k * 3 + 2, none⟩ = some (.string z1))
            (first | exact HK.out _ (Below.refl _ _).drew | exact HK.out _ (stp (Below.refl _ _).drew hb1))
            ((go_at_call 23; (with_reducible refine (HC2.out _).mono ?_); rintro e1 w1 ⟨rfl, hb1⟩))
          go_wp2_with fail
          go_roundg (gk - 1)
          case measure => omega
          case rel => exact ⟨k + 1, by omega, by go_num, HT.out, stp HBW.out.drew hb1⟩
        · have HC2 : Hid _ := Lib.hid fun W => HC.out false W (decide_eq_false hxy)
          obtain rfl : false = q := by
            rw [← HH.out, eq_comm, decide_eq_false_iff_not]
            refine ne_at hk1 hk2 fun e => hxy ⟨ba_x ?_, ba_x ?_, ba_x ?_⟩
            · rw [hx, hx1, e]
            · rw [hy, hy1, e]
            · rw [hz, hz1, e]
          clear HC hx hx1 hy hy1 hz hz1 hno hxy
          go_wp2_with fail
          clear c0 c1 c2 d0 d1 d2
          go_region_held3 (fun W => W.cell? ⟨b0, off + k * 3, none⟩ = some (.string x) ∧ W.cell? ⟨b0, off + k * 3 + 1, none⟩ = some (.string y) ∧ W.cell? ⟨b0, off + k * 3 + 2, none⟩ = some (.string z) ∧ W.cell? ⟨b1, of1 + k * 3, none⟩ = some (.string x1) ∧ W.cell? ⟨b1, of1 + k * 3 + 1, none⟩ = some (.string y1) ∧ W.cell? ⟨b1, of1 + k * 3 + 2, none⟩ = some (.string z1))
            (first | exact HK.out _ (Below.refl _ _).drew | exact HK.out _ (stp (Below.refl _ _).drew hb1))
            ((go_at_call 23; (with_reducible refine (HC2.out _).mono ?_); rintro e1 w1 ⟨rfl, hb1⟩))
          go_wp2_with fail
          go_ret
          exact ⟨rfl, stp HBW.out.drew hb1⟩
      · obtain rfl : k = n := by omega
        obtain rfl : true = q := by
          rw [← HH.out, eq_comm, decide_eq_true_eq]
          rwa [List.take_of_length_le (by rw [HN.out]; exact Nat.le_refl _), List.take_of_length_le (by rw [HN2.out]; exact Nat.le_refl _)] at hno
        clear hno
        go_wp2_with fail
        go_ret
        exact ⟨rfl, HBW.out⟩
  · have d0 : ((n : Int) != (n2 : Int)) = true := by simp; omega
    have d1 : (n != n2) = true := by simpa using hne
    have d2 : (n == n2) = false := by simpa using hne
    obtain rfl : false = q := by
      rw [← HH.out, eq_comm, decide_eq_false_iff_not]
      rintro rfl
      exact hne (HN.out.symm.trans HN2.out)
    clear hne
    go_enter Tryz.func22, Tryz.ntmps22
    go_wp2_with fail
    go_ret
    exact ⟨rfl, Below.refl _ _⟩
end Hx
end Go.Proofs.YtlhjcdkkmloamaaGreatDoor
