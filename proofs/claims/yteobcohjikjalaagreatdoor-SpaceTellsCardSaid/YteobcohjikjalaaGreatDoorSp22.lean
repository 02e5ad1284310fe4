/-
  Texts of one seat, put together: TreC.
-/
import Derived.Test.YteobcohjikjalaaGreatDoorSp18
import Derived.Test.YteobcohjikjalaaGreatDoorSp21
import Derived.Deep.AppendLies
import Derived.OneCell
import Derived.Laws.EntriesVeiled
set_option linter.unusedSimpArgs false
namespace Go.Proofs.YteobcohjikjalaaGreatDoor
open Go.RowKit
namespace Hx
open Lx Tr Tx Nmb Es
set_option maxRecDepth 100000
set_option maxHeartbeats 16000000
set_option linter.unusedVariables false
def mayF (gn gv gw : Nat) : Value := .func (.func 56) #[] #[.pointer (some ⟨gn, 0, none⟩), .pointer (some ⟨gv, 0, none⟩), .pointer (some ⟨gw, 0, none⟩)]
structure Nx (B gn gv gw : Nat) (A : Option Addr) (c : Nat) (v : List Nd) (p : Nat) (w : World) : Prop where
  hn : w.heap[gn]? = some (.cells #[.int .i64 (p : Int)] 3 (0, 0))
  hv : w.heap[gv]? = some (.cells #[.slice A v.length c] 22 (0, 0))
  hw : w.heap[gw]? = some (.cells #[mayF gn gv gw] 81 (0, 0))
  rd : RdS NdS w (fun b => b < B) A v
  Bn : B ≤ gn
  nv : gv ≠ gn
  nw : gw ≠ gn
theorem cell_blk {w w' : World} {b o : Nat} (h : w'.heap[b]? = w.heap[b]?) : w'.cell? ⟨b, o, none⟩ = w.cell? ⟨b, o, none⟩ := by simp [World.cell?, h]
theorem RdS.grown {α : Type} {C : CodS α} {w w' : World} {B g : Nat} {A : Option Addr} {l : List α} (h : RdS C w (fun b => b < B) A l) (hg : w.grownBy w' (some g)) (hB : B ≤ g) (hs : B ≤ w.heap.size) : RdS C w' (fun b => b < B) A l :=
  h.keep (fun _ hb => hb) fun b o hb => cell_blk (hg.block b (Nat.lt_of_lt_of_le hb hs) (fun e => by injection e with e; omega))
theorem Nx.grown {B gn gv gw : Nat} {A : Option Addr} {c : Nat} {v : List Nd} {p p' : Nat} {w w' : World} (h : Nx B gn gv gw A c v p w) (hg : w.grownBy w' (some gn)) (hn : w'.heap[gn]? = some (.cells #[.int .i64 (p' : Int)] 3 (0, 0))) : Nx B gn gv gw A c v p' w' :=
  ⟨hn, (hg.block gv (lt_of_block h.hv) (fun e => by injection e with e; exact h.nv e)).trans h.hv, (hg.block gw (lt_of_block h.hw) (fun e => by injection e with e; exact h.nw e)).trans h.hw,
   h.rd.grown hg h.Bn (Nat.le_of_lt (Nat.lt_of_le_of_lt h.Bn (lt_of_block h.hn))), h.Bn, h.nv, h.nw⟩
theorem Nx.below {B gn gv gw : Nat} {A : Option Addr} {c : Nat} {v : List Nd} {p : Nat} {w w' : World} (h : Nx B gn gv gw A c v p w) (hb : Below w.heap.size w w') : Nx B gn gv gw A c v p w' :=
  h.grown (grown_below hb _) ((hb.block gn (lt_of_block h.hn)).trans h.hn)
theorem Nx.set {B gn gv gw : Nat} {A : Option Addr} {c : Nat} {v : List Nd} {p : Nat} {w : World} (h : Nx B gn gv gw A c v p w) (p' : Nat) : Nx B gn gv gw A c v p' (w.setCell ⟨gn, 0, none⟩ (.int .i64 (p' : Int))) :=
  h.grown (grown_set w gn _) (one_setCell h.hn)
theorem Nx.sz {B gn gv gw : Nat} {A : Option Addr} {c : Nat} {v : List Nd} {p : Nat} {w : World} (h : Nx B gn gv gw A c v p w) : B ≤ w.heap.size := Nat.le_of_lt (Nat.lt_of_le_of_lt h.Bn (lt_of_block h.hn))
theorem Nx.all {B gn gv gw : Nat} {A : Option Addr} {c : Nat} {v : List Nd} {p : Nat} {w : World} (h : Nx B gn gv gw A c v p w) : RdB NdS w A v := h.rd.mono fun b hb => Nat.lt_of_lt_of_le hb h.sz
def Walked (d : Nat) (v : List Nd) (p gn : Nat) (w : World) (e : Ending) (w' : World) : Prop := w.grownBy w' (some gn) ∧ ∃ p' : Nat, w'.heap[gn]? = some (.cells #[.int .i64 (p' : Int)] 3 (0, 0)) ∧
  ((∃ r, restD d (v.drop p) = some r ∧ e = .returned (.bool true) ∧ p' = v.length - r.length) ∨ (restD d (v.drop p) = none ∧ e = .returned (.bool false)))
theorem Walked.no {d : Nat} {v : List Nd} {p p' gn : Nat} {w w' : World} (h : restD d (v.drop p) = none) (hg : w.grownBy w' (some gn)) (hn : w'.heap[gn]? = some (.cells #[.int .i64 (p' : Int)] 3 (0, 0))) : Walked d v p gn w (.returned (.bool false)) w' := ⟨hg, p', hn, .inr ⟨h, rfl⟩⟩
def Deeper (d : Nat) (B gn gv gw : Nat) (A : Option Addr) (c : Nat) (v : List Nd) : Prop := ∀ (z : Int) (p : Nat) (w : World), z + d = 13 → p ≤ v.length → Nx B gn gv gw A c v p w →
  Calls Tryz.prog 56 #[.int .i64 z, .pointer (some ⟨gn, 0, none⟩), .pointer (some ⟨gv, 0, none⟩), .pointer (some ⟨gw, 0, none⟩)] w (Walked d v p gn w)

theorem may_end (d : Nat) (B gn gv gw : Nat) (A : Option Addr) (c : Nat) (v : List Nd) (hd : d ≤ 12) (hl : v.length ≤ 512) (z : Int) (w : World) (hx : Nx B gn gv gw A c v v.length w) :
    Calls Tryz.prog 56 #[.int .i64 z, .pointer (some ⟨gn, 0, none⟩), .pointer (some ⟨gv, 0, none⟩), .pointer (some ⟨gw, 0, none⟩)] w (Walked d v v.length gn w) := by
  have HW : Hid (Walked d v v.length gn w (.returned (.bool false)) w) := Lib.hid (Walked.no (by rw [List.drop_of_length_le (Nat.le_refl _)]; cases d <;> rfl) (World.grownBy.refl _ _) hx.hn)
  obtain ⟨n, hn⟩ : ∃ n, v.length = n := ⟨_, rfl⟩
  have kn := cell_of_one hx.hn
  have fn := free_of_one hx.hn
  have kv := cell_of_one hx.hv
  rw [hn] at kn kv HW ⊢
  clear hx hl hn
  go_enter Tryz.func56, Tryz.ntmps56
  go_wp2_with fail
  go_ret
  exact HW.out
theorem may_bad (d : Nat) (B gn gv gw : Nat) (A : Option Addr) (c : Nat) (v : List Nd) (hd : d ≤ 12) (hl : v.length ≤ 512) (z : Int) (p : Nat) (hp : p < v.length) (hs : SmallN (v[p]'hp)) (hh : holdB (v[p]'hp) = false) (w : World) (hx : Nx B gn gv gw A c v p w) :
    Calls Tryz.prog 56 #[.int .i64 z, .pointer (some ⟨gn, 0, none⟩), .pointer (some ⟨gv, 0, none⟩), .pointer (some ⟨gw, 0, none⟩)] w (Walked d v p gn w) := by
  obtain ⟨b0, off, x, y, t, A1, c1, hA, hbB, hin, q0, q1, q2, q3, q4, q5⟩ := nd_at hx.rd hp
  obtain ⟨nd, hnd⟩ : ∃ nd, v[p]'hp = nd := ⟨_, rfl⟩
  rw [hnd] at hin q0 q3 q5 hs
  have hAt : NdAt nd x y t A1 c1 w := hin.keep (fun b hb => Nat.lt_of_lt_of_le hb hx.sz) fun _ _ _ => rfl
  have HX := Lib.hid hx
  have HPL : Hid (p < v.length) := Lib.hid hp
  have bk : (0 : Int) ≤ (p : Int) ∧ (p : Int) < (v.length : Int) := by omega
  have f0 : ((p : Int) == (v.length : Int)) = false := by simp; omega
  have bl : (v.length : Int) ≤ 512 := by omega
  obtain ⟨n, hn⟩ : ∃ n, v.length = n := ⟨_, rfl⟩
  have HLN := Lib.hid hn
  have kn := cell_of_one hx.hn
  have fn := free_of_one hx.hn
  have kv := cell_of_one hx.hv
  have HW : Hid (∀ w1, Below w.heap.size w w1 → Walked d v p gn w (.returned (.bool false)) w1) := Lib.hid fun w1 hb => Walked.no (by rw [restD_eq hp, if_neg (by rw [hh]; rintro ⟨h, _⟩; cases h)]) (grown_below hb _) (hx.below hb).hn
  rw [hnd] at hh
  have HC := Lib.hid (hold10 nd x y t A1 c1 w hAt hs false hh)
  unfold NdV at HC
  subst hA
  rw [hn] at kv f0 bk
  clear hx hl hin hAt hs hh hnd hbB hp hn
  go_enter Tryz.func56, Tryz.ntmps56
  go_wp2_with (first
    | (go_at_call 57; (with_reducible refine (HC.out).mono ?_); rintro e1 w1 ⟨rfl, hb1⟩; skip)
    | fail)
  go_ret
  exact HW.out w1 hb1
theorem nx_step {B gn gv gw : Nat} {A : Option Addr} {c : Nat} {v : List Nd} {p : Nat} {w w1 : World} (hx : Nx B gn gv gw A c v p w) (hb : Below w.heap.size w w1) (cs : Array Value) (T : TypeId) (V : World) (hV : (w1.setCell ⟨gn, 0, none⟩ (.int .i64 ((p : Int) + 1))).alloc (.cells cs T) = V) :
    Nx B gn gv gw A c v (p + 1) V ∧ w.grownBy V (some gn) ∧ V.heap[w1.heap.size]? = some (.cells cs T (0, 0)) := by
  have h1 := (hx.below hb).set (p + 1)
  have e : ((p + 1 : Nat) : Int) = (p : Int) + 1 := by omega
  rw [e] at h1
  have h2 := h1.below (stpA (Below.refl _ _) (.cells cs T))
  rw [hV] at h2
  refine ⟨h2, ?_, ?_⟩
  · rw [← hV]
    exact ((grown_below hb _).trans (grown_set w1 gn _)).trans (World.grownBy_alloc _ _ _)
  · rw [← hV]
    have := heap_alloc_new (w1.setCell ⟨gn, 0, none⟩ (.int .i64 ((p : Int) + 1))) (.cells cs T)
    rwa [World.size_setCell] at this
theorem may_deep (B gn gv gw : Nat) (A : Option Addr) (c : Nat) (v : List Nd) (hl : v.length ≤ 512) (p : Nat) (hp : p < v.length) (hs : SmallN (v[p]'hp)) (hh : holdB (v[p]'hp) = true) (hk : (v[p]'hp).kind = 1) (w : World) (hx : Nx B gn gv gw A c v p w) :
    Calls Tryz.prog 56 #[.int .i64 13, .pointer (some ⟨gn, 0, none⟩), .pointer (some ⟨gv, 0, none⟩), .pointer (some ⟨gw, 0, none⟩)] w (Walked 0 v p gn w) := by
  obtain ⟨b0, off, x, y, t, A1, c1, hA, hbB, hin, q0, q1, q2, q3, q4, q5⟩ := nd_at hx.rd hp
  obtain ⟨nd, hnd⟩ : ∃ nd, v[p]'hp = nd := ⟨_, rfl⟩
  rw [hnd] at hin q0 q3 q5 hs
  have hAt : NdAt nd x y t A1 c1 w := hin.keep (fun b hb => Nat.lt_of_lt_of_le hb hx.sz) fun _ _ _ => rfl
  have HX := Lib.hid hx
  have HPL : Hid (p < v.length) := Lib.hid hp
  have bk : (0 : Int) ≤ (p : Int) ∧ (p : Int) < (v.length : Int) := by omega
  have f0 : ((p : Int) == (v.length : Int)) = false := by simp; omega
  have bl : (v.length : Int) ≤ 512 := by omega
  obtain ⟨n, hn⟩ : ∃ n, v.length = n := ⟨_, rfl⟩
  have HLN := Lib.hid hn
  have kn := cell_of_one hx.hn
  have fn := free_of_one hx.hn
  have kv := cell_of_one hx.hv
  have HW : Hid (∀ V p', Nx B gn gv gw A c v p' V → w.grownBy V (some gn) → Walked 0 v p gn w (.returned (.bool false)) V) := Lib.hid fun V p' h1 h2 => Walked.no (by rw [restD_eq hp, if_neg (by rintro ⟨_, h⟩; exact h ⟨hk, rfl⟩)]) h2 h1.hn
  rw [hnd] at hh hk
  have HC := Lib.hid (hold10 nd x y t A1 c1 w hAt hs true hh)
  unfold NdV at HC
  obtain ⟨kd, hkd⟩ : ∃ kd, nd.kind = kd := ⟨_, rfl⟩
  obtain ⟨mm, hmm⟩ : ∃ mm, nd.many = mm := ⟨_, rfl⟩
  obtain ⟨n2, hn2⟩ : ∃ n2, nd.attrs.length = n2 := ⟨_, rfl⟩
  have HBS : Hid (b0 < w.heap.size) := Lib.hid (Nat.lt_of_lt_of_le hbB hx.sz)
  have ba := hin.lo
  have bb := hin.hi
  subst hA
  rw [hn] at kv f0 bk bl
  rw [hkd, hmm, hn2] at HC
  rw [hkd] at q0
  rw [hmm] at q5 ba bb
  rw [hn2] at q3
  obtain rfl : 1 = kd := by rw [← hkd, hk]
  rw [show ((1 : Nat) : Int) = 1 from rfl] at HC q0
  clear hx hl hin hAt hs hh hnd hbB hp hn hkd hmm hn2 hk
  go_enter Tryz.func56, Tryz.ntmps56
  go_wp2_with (first
    | (go_at_call 57; (with_reducible refine (HC.out).mono ?_); rintro e1 w1 ⟨rfl, hb1⟩; have HB1 := Lib.hid hb1; have HN1 := Lib.hid (HX.out.below hb1); have kn1 := cell_of_one HN1.out.hn; have fn1 := free_of_one HN1.out.hn; have kv1 := cell_of_one HN1.out.hv; have hq1 := fun o => (hb1.cell (p := ⟨b0, o, none⟩) HBS.out); have s0 := (hq1 _).trans q0; have s1 := (hq1 _).trans q1; have s2 := (hq1 _).trans q2; have s3 := (hq1 _).trans q3; have s4 := (hq1 _).trans q4; have s5 := (hq1 _).trans q5; have hgl : gn < w1.heap.size := lt_of_block HN1.out.hn; clear hq1 hb1)
    | fail)
  go_ret
  obtain ⟨g1, g2, _⟩ := nx_step HX.out HB1.out _ _ _ rfl
  exact HW.out _ _ g1 g2
theorem Walked.none {d : Nat} {v : List Nd} {p gn : Nat} {w : World} {e : Ending} {w' : World} (h : Walked d v p gn w e w') (hr : restD d (v.drop p) = none) : e = .returned (.bool false) ∧ w.grownBy w' (some gn) ∧ ∃ p' : Nat, w'.heap[gn]? = some (.cells #[.int .i64 (p' : Int)] 3 (0, 0)) := by
  obtain ⟨h1, p', h2, ⟨r, h3, _⟩ | ⟨_, h3⟩⟩ := h
  · rw [hr] at h3; cases h3
  · exact ⟨h3, h1, p', h2⟩
theorem Walked.some {d : Nat} {v r : List Nd} {p gn : Nat} {w : World} {e : Ending} {w' : World} (h : Walked d v p gn w e w') (hr : restD d (v.drop p) = some r) : e = .returned (.bool true) ∧ w.grownBy w' (some gn) ∧ w'.heap[gn]? = some (.cells #[.int .i64 ((v.length - r.length : Nat) : Int)] 3 (0, 0)) := by
  obtain ⟨h1, p', h2, ⟨r', h3, h4, h5⟩ | ⟨h3, _⟩⟩ := h
  · rw [hr] at h3
    obtain rfl := Option.some.inj h3
    exact ⟨h4, h1, by rw [h5] at h2; exact h2⟩
  · rw [hr] at h3; cases h3
theorem may_go1 (d : Nat) (B gn gv gw : Nat) (A : Option Addr) (c : Nat) (v : List Nd) (hd : d ≤ 12) (hl : v.length ≤ 512) (hh0 : 0 < d) (ih : 0 < d → Deeper (d - 1) B gn gv gw A c v) (z : Int) (hz : z + d = 13) (p : Nat) (hp : p < v.length) (hs : SmallN (v[p]'hp)) (hh : holdB (v[p]'hp) = true) (hk : (v[p]'hp).kind = 1) (w : World) (hx : Nx B gn gv gw A c v p w) :
    Calls Tryz.prog 56 #[.int .i64 z, .pointer (some ⟨gn, 0, none⟩), .pointer (some ⟨gv, 0, none⟩), .pointer (some ⟨gw, 0, none⟩)] w (Walked d v p gn w) := by
  obtain ⟨b0, off, x, y, t, A1, c1, hA, hbB, hin, q0, q1, q2, q3, q4, q5⟩ := nd_at hx.rd hp
  obtain ⟨nd, hnd⟩ : ∃ nd, v[p]'hp = nd := ⟨_, rfl⟩
  rw [hnd] at hin q0 q3 q5 hs
  have hAt : NdAt nd x y t A1 c1 w := hin.keep (fun b hb => Nat.lt_of_lt_of_le hb hx.sz) fun _ _ _ => rfl
  have HX := Lib.hid hx
  have HPL : Hid (p < v.length) := Lib.hid hp
  have bk : (0 : Int) ≤ (p : Int) ∧ (p : Int) < (v.length : Int) := by omega
  have f0 : ((p : Int) == (v.length : Int)) = false := by simp; omega
  have bl : (v.length : Int) ≤ 512 := by omega
  obtain ⟨n, hn⟩ : ∃ n, v.length = n := ⟨_, rfl⟩
  have HLN := Lib.hid hn
  have kn := cell_of_one hx.hn
  have fn := free_of_one hx.hn
  have kv := cell_of_one hx.hv
  have HRE : Hid (restD d (v.drop p) = (kidsD (restD (d - 1)) nd.many.toNat false (v.drop (p + 1))).map (·.2)) := Lib.hid (by rw [restD_eq hp, if_pos ⟨hh, by omega⟩, hnd])
  rw [hnd] at hh hk
  have hm0 : 0 ≤ nd.many := by unfold holdB at hh; simp at hh; exact hh.2
  have HC := Lib.hid (hold10 nd x y t A1 c1 w hAt hs true hh)
  unfold NdV at HC
  obtain ⟨kd, hkd⟩ : ∃ kd, nd.kind = kd := ⟨_, rfl⟩
  obtain ⟨mm, hmm⟩ : ∃ mm, nd.many = mm := ⟨_, rfl⟩
  obtain ⟨n2, hn2⟩ : ∃ n2, nd.attrs.length = n2 := ⟨_, rfl⟩
  have HBS : Hid (b0 < w.heap.size) := Lib.hid (Nat.lt_of_lt_of_le hbB hx.sz)
  have ba := hin.lo
  have bb := hin.hi
  subst hA
  rw [hn] at kv f0 bk bl
  rw [hkd, hmm, hn2] at HC
  rw [hkd] at q0
  rw [hmm] at q5 ba bb
  rw [hn2] at q3
  rw [hmm] at HRE hm0
  have HYES : Hid (∀ (V : World) (l' : List Nd) (p' : Nat) (b : Bool), kidsD (restD (d - 1)) mm.toNat false (v.drop (p + 1)) = some (b, l') → w.grownBy V (some gn) → V.heap[gn]? = some (.cells #[.int .i64 (p' : Int)] 3 (0, 0)) → p' = v.length - l'.length → Walked d v p gn w (.returned (.bool true)) V) := Lib.hid fun V l' p' b h1 h2 h3 h4 => ⟨h2, p', h3, .inl ⟨l', by rw [HRE.out, h1]; rfl, rfl, h4⟩⟩
  have HNO : Hid (∀ (V : World) (p' : Nat), kidsD (restD (d - 1)) mm.toNat false (v.drop (p + 1)) = none → w.grownBy V (some gn) → V.heap[gn]? = some (.cells #[.int .i64 (p' : Int)] 3 (0, 0)) → Walked d v p gn w (.returned (.bool false)) V) := Lib.hid fun V p' h1 h2 h3 => Walked.no (by rw [HRE.out, h1]; rfl) h2 h3
  have HZ := Lib.hid hz
  have HIH := Lib.hid ih
  obtain rfl : 1 = kd := by rw [← hkd, hk]
  rw [show ((1 : Nat) : Int) = 1 from rfl] at HC q0
  have fz : decide ((12 : Int) < z) = false := decide_eq_false (by omega)
  have HD0 := Lib.hid hh0
  have bz : (1 : Int) ≤ z ∧ z ≤ 12 := by omega
  clear hx hl hin hAt hs hh hnd hbB hp hn hkd hmm hn2 hk hz ih hh0 hd
  go_enter Tryz.func56, Tryz.ntmps56
  go_wp2_with (first
    | (go_at_call 57; (with_reducible refine (HC.out).mono ?_); rintro e1 w1 ⟨rfl, hb1⟩; have HB1 := Lib.hid hb1; have HN1 := Lib.hid (HX.out.below hb1); have kn1 := cell_of_one HN1.out.hn; have fn1 := free_of_one HN1.out.hn; have kv1 := cell_of_one HN1.out.hv; have hq1 := fun o => (hb1.cell (p := ⟨b0, o, none⟩) HBS.out); have s0 := (hq1 _).trans q0; have s1 := (hq1 _).trans q1; have s2 := (hq1 _).trans q2; have s3 := (hq1 _).trans q3; have s4 := (hq1 _).trans q4; have s5 := (hq1 _).trans q5; have hgl : gn < w1.heap.size := lt_of_block HN1.out.hn; clear hq1 hb1)
    | fail)
  go_loopg [7, 36] n (fun gg x7 i wr => ∃ (j : Nat) (b : Bool) (p' : Nat), j + gg = n ∧ (j : Int) ≤ mm ∧ i = .int .i64 j ∧ x7 = .bool b ∧ kidsD (restD (d - 1)) j false (v.drop (p + 1)) = some (b, v.drop p') ∧ p' ≤ n ∧ Nx B gn gv gw (some ⟨b0, off, none⟩) c v p' wr ∧ w.grownBy wr (some gn))
  case atStart =>
    obtain ⟨g1, g2, _⟩ := nx_step HX.out HB1.out _ _ _ rfl
    exact ⟨0, false, p + 1, by omega, hm0, rfl, rfl, by rw [kidsD], by have := HPL.out; rw [HLN.out] at this; omega, g1, g2⟩
  case round =>
    obtain ⟨j, b, p', hjg, hjm, rfl, rfl, hkd, hpn, hnx, hgr⟩ := hrel
    have HNX := Lib.hid hnx
    have HGR := Lib.hid hgr
    have HKD := Lib.hid hkd
    clear kn1 fn1 kv1 s0 s1 s2 s3 s4 s5
    by_cases hlt : (j : Int) < mm
    · have kn2 := cell_of_one hnx.hn
      have kv2 := cell_of_one hnx.hv
      have kw2 := cell_of_one hnx.hw
      have HNXT : Hid _ := Lib.hid (kids_next hkd (m := mm.toNat) (by omega))
      have hcall := HIH.out HD0.out (z + 1) p' wr (by have := HZ.out; have := HD0.out; omega) (by rw [HLN.out]; exact hpn) hnx
      have HCALL := Lib.hid hcall
      rw [HLN.out] at kv2
      unfold mayF at kw2
      by_cases hpe : n ≤ p'
      · have hno : restD (d - 1) (v.drop p') = none := by rw [List.drop_of_length_le (by rw [HLN.out]; exact hpe)]; cases d - 1 <;> rfl
        have HF := Lib.hid (HNXT.out.1 (by rw [HLN.out]; exact hpe))
        have HNO2 := Lib.hid hno
        have f5 : decide ((p' : Int) < (n : Int)) = false := decide_eq_false (by omega)
        clear hcall hno hkd hnx hgr HNXT
        go_wp2_with (first
          | (go_at_call 56; (with_reducible refine (HCALL.out).mono ?_); rintro e2 w2 hwk; obtain ⟨rfl, hg2, p2, hn2⟩ := hwk.none HNO2.out)
          | fail)
        go_ret
        exact HNO.out w2 p2 HF.out (HGR.out.trans hg2) hn2
      · have hp2 : p' < v.length := by rw [HLN.out]; omega
        obtain ⟨bb', off', x', y', t', A1', c1', hA', _, hin', u0, _, _, _, _, _⟩ := nd_at hnx.rd hp2
        injection hA' with hA'
        injection hA' with ha1 ha2 _
        subst ha1 ha2
        obtain ⟨k2, hk2⟩ : ∃ k2, (v[p']'hp2).kind = k2 := ⟨_, rfl⟩
        rw [hk2] at u0
        have HN2 := Lib.hid (HNXT.out.2 hp2)
        rw [hk2] at HN2
        have f5 : decide ((p' : Int) < (n : Int)) = true := decide_eq_true (by rw [← HLN.out]; omega)
        have bp : (0 : Int) ≤ (p' : Int) ∧ (p' : Int) < (n : Int) := by rw [← HLN.out]; omega
        obtain ⟨tt, htt⟩ : ∃ tt, ((k2 : Int) == 2) = tt := ⟨_, rfl⟩
        have HTT : Hid (decide (k2 = 2) = tt) := Lib.hid (by rw [← htt, Bool.eq_iff_iff]; simp; omega)
        have HT2 : Hid (tt = true ↔ k2 = 2) := Lib.hid (by rw [← HTT.out]; simp)
        clear hcall hkd hnx hgr HNXT hk2 hin'
        have stop : ∀ (W : World), kidsD (restD (d - 1)) mm.toNat false (v.drop (p + 1)) = none → W = wr → Walked d v p gn w (.returned (.bool false)) wr := fun W h _ => HNO.out wr p' h HGR.out HNX.out.hn
        have HSTOP := Lib.hid stop
        clear stop
        by_cases hboth : b = true ∧ tt = true
        · obtain ⟨rfl, rfl⟩ := hboth
          have HF := Lib.hid (HN2.out.1 ⟨rfl, HT2.out.1 rfl⟩)
          go_wp2_with fail
          go_ret
          exact HSTOP.out wr HF.out rfl
        · have HB3 : Hid (¬ (b = true ∧ k2 = 2)) := Lib.hid fun h => hboth ⟨h.1, HT2.out.2 h.2⟩
          have hbt : (b = false ∧ tt = false) ∨ (b = false ∧ tt = true) ∨ (b = true ∧ tt = false) := by
            cases b <;> cases tt <;> simp_all
          clear hboth
          cases hr : restD (d - 1) (v.drop p') with
          | none =>
            have HR2 := Lib.hid hr
            have HF := Lib.hid (HN2.out.2.1 hr)
            clear hr
            rcases hbt with ⟨rfl, rfl⟩ | ⟨rfl, rfl⟩ | ⟨rfl, rfl⟩
            all_goals
              go_wp2_with (first
                | (go_at_call 56; (with_reducible refine (HCALL.out).mono ?_); rintro e2 w2 hwk; obtain ⟨rfl, hg2, p2, hn2⟩ := hwk.none HR2.out)
                | fail)
              go_ret
              exact HNO.out w2 p2 HF.out (HGR.out.trans hg2) hn2
          | some r =>
            have HR2 := Lib.hid hr
            have hnxt := HN2.out.2.2 r HB3.out hr
            have hsuf := restD_drop hr
            have hlr := restD_len hr
            rw [List.length_drop] at hsuf hlr
            have hlen := kidsD_len hnxt
            rw [List.length_drop] at hlen
            rw [List.drop_drop, show p' + (v.length - p' - r.length) = v.length - r.length by omega] at hsuf
            obtain ⟨p3, hp3⟩ : ∃ p3, v.length - r.length = p3 := ⟨_, rfl⟩
            rw [hp3] at hsuf
            have HNXT2 : Hid (kidsD (restD (d - 1)) (j + 1) false (v.drop (p + 1)) = some (tt, v.drop p3)) := Lib.hid (by rw [hnxt, HTT.out, ← hsuf])
            have HP3 := Lib.hid hp3
            have HJ : Hid (j + 1 ≤ n ∧ p3 ≤ n) := Lib.hid (by have := HLN.out; omega)
            clear hr hnxt hsuf hlr hlen hp3
            rcases hbt with ⟨rfl, rfl⟩ | ⟨rfl, rfl⟩ | ⟨rfl, rfl⟩
            all_goals
              go_wp2_with (first
                | (go_at_call 56; (with_reducible refine (HCALL.out).mono ?_); rintro e2 w2 hwk; obtain ⟨rfl, hg2, hn2⟩ := hwk.some HR2.out; rw [HP3.out] at hn2; have HG2 := Lib.hid hg2; have HN9 := Lib.hid hn2; clear hg2 hn2 hwk)
                | fail)
              go_roundg (gk - 1)
              case rel => exact ⟨j + 1, _, p3, by have := HJ.out; omega, by omega, by go_num, rfl, HNXT2.out, HJ.out.2, HNX.out.grown HG2.out HN9.out, HGR.out.trans HG2.out⟩
              case measure => have := HJ.out; omega
    · have hje : mm.toNat = j := by omega
      have HY := Lib.hid (HYES.out wr (v.drop p') p' b (by rw [hje]; exact hkd) hgr hnx.hn (by rw [List.length_drop, HLN.out]; omega))
      clear hkd hnx hgr hje
      go_wp2_with fail
      go_ret
      exact HY.out
theorem may_go2 (d : Nat) (B gn gv gw : Nat) (A : Option Addr) (c : Nat) (v : List Nd) (hd : d ≤ 12) (hl : v.length ≤ 512) (hh0 : True) (ih : 0 < d → Deeper (d - 1) B gn gv gw A c v) (z : Int) (hz : z + d = 13) (p : Nat) (hp : p < v.length) (hs : SmallN (v[p]'hp)) (hh : holdB (v[p]'hp) = true) (hk : (v[p]'hp).kind = 2) (w : World) (hx : Nx B gn gv gw A c v p w) :
    Calls Tryz.prog 56 #[.int .i64 z, .pointer (some ⟨gn, 0, none⟩), .pointer (some ⟨gv, 0, none⟩), .pointer (some ⟨gw, 0, none⟩)] w (Walked d v p gn w) := by
  obtain ⟨b0, off, x, y, t, A1, c1, hA, hbB, hin, q0, q1, q2, q3, q4, q5⟩ := nd_at hx.rd hp
  obtain ⟨nd, hnd⟩ : ∃ nd, v[p]'hp = nd := ⟨_, rfl⟩
  rw [hnd] at hin q0 q3 q5 hs
  have hAt : NdAt nd x y t A1 c1 w := hin.keep (fun b hb => Nat.lt_of_lt_of_le hb hx.sz) fun _ _ _ => rfl
  have HX := Lib.hid hx
  have HPL : Hid (p < v.length) := Lib.hid hp
  have bk : (0 : Int) ≤ (p : Int) ∧ (p : Int) < (v.length : Int) := by omega
  have f0 : ((p : Int) == (v.length : Int)) = false := by simp; omega
  have bl : (v.length : Int) ≤ 512 := by omega
  obtain ⟨n, hn⟩ : ∃ n, v.length = n := ⟨_, rfl⟩
  have HLN := Lib.hid hn
  have kn := cell_of_one hx.hn
  have fn := free_of_one hx.hn
  have kv := cell_of_one hx.hv
  have HRE : Hid (restD d (v.drop p) = (kidsD (restD (d - 1)) nd.many.toNat false (v.drop (p + 1))).map (·.2)) := Lib.hid (by rw [restD_eq hp, if_pos ⟨hh, by omega⟩, hnd])
  rw [hnd] at hh hk
  have hm0 : 0 ≤ nd.many := by unfold holdB at hh; simp at hh; exact hh.2
  have HC := Lib.hid (hold10 nd x y t A1 c1 w hAt hs true hh)
  unfold NdV at HC
  obtain ⟨kd, hkd⟩ : ∃ kd, nd.kind = kd := ⟨_, rfl⟩
  obtain ⟨mm, hmm⟩ : ∃ mm, nd.many = mm := ⟨_, rfl⟩
  obtain ⟨n2, hn2⟩ : ∃ n2, nd.attrs.length = n2 := ⟨_, rfl⟩
  have HBS : Hid (b0 < w.heap.size) := Lib.hid (Nat.lt_of_lt_of_le hbB hx.sz)
  have ba := hin.lo
  have bb := hin.hi
  subst hA
  rw [hn] at kv f0 bk bl
  rw [hkd, hmm, hn2] at HC
  rw [hkd] at q0
  rw [hmm] at q5 ba bb
  rw [hn2] at q3
  have hm2 : nd.many = 0 := (ndOk_two (by unfold holdB at hh; simp at hh; exact hh.1) hk).1
  rw [hmm] at HRE hm0
  have HYES : Hid (∀ (V : World) (l' : List Nd) (p' : Nat) (b : Bool), kidsD (restD (d - 1)) mm.toNat false (v.drop (p + 1)) = some (b, l') → w.grownBy V (some gn) → V.heap[gn]? = some (.cells #[.int .i64 (p' : Int)] 3 (0, 0)) → p' = v.length - l'.length → Walked d v p gn w (.returned (.bool true)) V) := Lib.hid fun V l' p' b h1 h2 h3 h4 => ⟨h2, p', h3, .inl ⟨l', by rw [HRE.out, h1]; rfl, rfl, h4⟩⟩
  have HNO : Hid (∀ (V : World) (p' : Nat), kidsD (restD (d - 1)) mm.toNat false (v.drop (p + 1)) = none → w.grownBy V (some gn) → V.heap[gn]? = some (.cells #[.int .i64 (p' : Int)] 3 (0, 0)) → Walked d v p gn w (.returned (.bool false)) V) := Lib.hid fun V p' h1 h2 h3 => Walked.no (by rw [HRE.out, h1]; rfl) h2 h3
  have HZ := Lib.hid hz
  have HIH := Lib.hid ih
  obtain rfl : 2 = kd := by rw [← hkd, hk]
  rw [show ((2 : Nat) : Int) = 2 from rfl] at HC q0
  have HM2 : Hid (mm = 0) := Lib.hid (by rw [← hmm]; exact hm2)
  clear hm2
  clear hx hl hin hAt hs hh hnd hbB hp hn hkd hmm hn2 hk hz ih hh0 hd
  go_enter Tryz.func56, Tryz.ntmps56
  go_wp2_with (first
    | (go_at_call 57; (with_reducible refine (HC.out).mono ?_); rintro e1 w1 ⟨rfl, hb1⟩; have HB1 := Lib.hid hb1; have HN1 := Lib.hid (HX.out.below hb1); have kn1 := cell_of_one HN1.out.hn; have fn1 := free_of_one HN1.out.hn; have kv1 := cell_of_one HN1.out.hv; have hq1 := fun o => (hb1.cell (p := ⟨b0, o, none⟩) HBS.out); have s0 := (hq1 _).trans q0; have s1 := (hq1 _).trans q1; have s2 := (hq1 _).trans q2; have s3 := (hq1 _).trans q3; have s4 := (hq1 _).trans q4; have s5 := (hq1 _).trans q5; have hgl : gn < w1.heap.size := lt_of_block HN1.out.hn; clear hq1 hb1)
    | fail)
  go_loopg [7, 36] n (fun gg x7 i wr => ∃ (j : Nat) (b : Bool) (p' : Nat), j + gg = n ∧ (j : Int) ≤ mm ∧ i = .int .i64 j ∧ x7 = .bool b ∧ kidsD (restD (d - 1)) j false (v.drop (p + 1)) = some (b, v.drop p') ∧ p' ≤ n ∧ Nx B gn gv gw (some ⟨b0, off, none⟩) c v p' wr ∧ w.grownBy wr (some gn))
  case atStart =>
    obtain ⟨g1, g2, _⟩ := nx_step HX.out HB1.out _ _ _ rfl
    exact ⟨0, false, p + 1, by omega, hm0, rfl, rfl, by rw [kidsD], by have := HPL.out; rw [HLN.out] at this; omega, g1, g2⟩
  case round =>
    obtain ⟨j, b, p', hjg, hjm, rfl, rfl, hkd, hpn, hnx, hgr⟩ := hrel
    have HNX := Lib.hid hnx
    have HGR := Lib.hid hgr
    have HKD := Lib.hid hkd
    clear kn1 fn1 kv1 s0 s1 s2 s3 s4 s5
    by_cases hlt : (j : Int) < mm
    · have := HM2.out
      omega
    · have hje : mm.toNat = j := by omega
      have HY := Lib.hid (HYES.out wr (v.drop p') p' b (by rw [hje]; exact hkd) hgr hnx.hn (by rw [List.length_drop, HLN.out]; omega))
      clear hkd hnx hgr hje
      go_wp2_with fail
      go_ret
      exact HY.out
theorem may_all (B gn gv gw : Nat) (A : Option Addr) (c : Nat) (v : List Nd) (hl : v.length ≤ 512) (hsm : ∀ n ∈ v, SmallN n) : ∀ d, d ≤ 12 → Deeper d B gn gv gw A c v := by
  intro d
  induction d with
  | zero =>
    intro _ z p w hz hp hx
    obtain rfl : z = 13 := by omega
    by_cases hpl : p < v.length
    · have hs := hsm _ (List.getElem_mem hpl)
      cases hh : holdB (v[p]'hpl) with
      | false => exact may_bad 0 B gn gv gw A c v (by omega) hl 13 p hpl hs hh w hx
      | true =>
        by_cases hk : (v[p]'hpl).kind = 1
        · exact may_deep B gn gv gw A c v hl p hpl hs hh hk w hx
        · have hk2 : (v[p]'hpl).kind = 2 := (ndOk_kind (by unfold holdB at hh; simp at hh; exact hh.1)).resolve_left hk
          exact may_go2 0 B gn gv gw A c v (by omega) hl trivial (fun h => by omega) 13 (by omega) p hpl hs hh hk2 w hx
    · obtain rfl : p = v.length := by omega
      exact may_end 0 B gn gv gw A c v (by omega) hl 13 w hx
  | succ d ih =>
    intro hd z p w hz hp hx
    by_cases hpl : p < v.length
    · have hs := hsm _ (List.getElem_mem hpl)
      cases hh : holdB (v[p]'hpl) with
      | false => exact may_bad (d + 1) B gn gv gw A c v hd hl z p hpl hs hh w hx
      | true =>
        have ih' : 0 < d + 1 → Deeper (d + 1 - 1) B gn gv gw A c v := fun _ => ih (by omega)
        by_cases hk : (v[p]'hpl).kind = 1
        · exact may_go1 (d + 1) B gn gv gw A c v hd hl (by omega) ih' z hz p hpl hs hh hk w hx
        · have hk2 : (v[p]'hpl).kind = 2 := (ndOk_kind (by unfold holdB at hh; simp at hh; exact hh.1)).resolve_left hk
          exact may_go2 (d + 1) B gn gv gw A c v hd hl trivial ih' z hz p hpl hs hh hk2 w hx
    · obtain rfl : p = v.length := by omega
      exact may_end (d + 1) B gn gv gw A c v hd hl z w hx
end Hx
end Go.Proofs.YteobcohjikjalaaGreatDoor
