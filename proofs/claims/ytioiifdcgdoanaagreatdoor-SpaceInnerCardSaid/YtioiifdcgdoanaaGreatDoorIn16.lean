/-
  Texts of one seat, put together: TreC, TreD, SpaG, TrhA, SpaP.
-/
import Derived.Test.YtioiifdcgdoanaaGreatDoorIn13
import Derived.Test.YtioiifdcgdoanaaGreatDoorIn15
import Derived.Deep.AppendLies
import Derived.OneCell
import Derived.Laws.EntriesVeiled
import Derived.Test.YtioiifdcgdoanaaGreatDoorIn12
import Derived.Test.YtioiifdcgdoanaaGreatDoorIn14
namespace Go.Proofs.YtioiifdcgdoanaaGreatDoor
open Go.RowKit
namespace Hx
open Lx Tr Tx Nmb Es
set_option maxRecDepth 100000
set_option maxHeartbeats 16000000
set_option linter.unusedVariables false
def mayF (gn gv gw : Nat) : Value := .func (.func 126) #[] #[.pointer (some ⟨gn, 0, none⟩), .pointer (some ⟨gv, 0, none⟩), .pointer (some ⟨gw, 0, none⟩)]
structure Nx (B gn gv gw : Nat) (A : Option Addr) (c : Nat) (v : List Nd) (p : Nat) (w : World) : Prop where
  hn : w.heap[gn]? = some (.cells #[.int .i64 (p : Int)] 3 (0, 0))
  hv : w.heap[gv]? = some (.cells #[.slice A v.length c] 29 (0, 0))
  hw : w.heap[gw]? = some (.cells #[mayF gn gv gw] 152 (0, 0))
  rd : RdS NdS w (fun b => b < B) A v
  Bn : B ≤ gn
  nv : gv ≠ gn
  nw : gw ≠ gn
theorem cell_blk {w w' : World} {b o : Nat} (h : w'.heap[b]? = w.heap[b]?) : w'.cell? ⟨b, o, none⟩ = w.cell? ⟨b, o, none⟩ := by simp [World.cell?, h]
theorem RdS.grown {α : Type} {C : CodS α} {w w' : World} {B g : Nat} {A : Option Addr} {l : List α} (h : RdS C w (fun b => b < B) A l) (hg : w.grownBy w' (some g)) (hB : B ≤ g) (hs : B ≤ w.heap.size) : RdS C w' (fun b => b < B) A l :=
  h.keep (fun _ hb => hb) fun b o hb => cell_blk (hg.block b (Nat.lt_of_lt_of_le hb hs) (fun e => by injection e with e; omega))
theorem Nx.grown {B gn gv gw : Nat} {A : Option Addr} {c : Nat} {v : List Nd} {p p' : Nat} {w w' : World} (h : Nx B gn gv gw A c v p w) (hg : w.grownBy w' (some gn)) (hn : w'.heap[gn]? = some (.cells #[.int .i64 (p' : Int)] 3 (0, 0))) : Nx B gn gv gw A c v p' w' :=
  ⟨hn, (hg.block gv (lt_of_block h.hv) (fun e => by injection e with e; exact h.nv e)).trans h.hv, (hg.block gw (lt_of_block h.hw) (fun e => by injection e with e; exact h.nw e)).trans h.hw,
   h.rd.grown hg h.Bn (Nat.le_of_lt (Nat.lt_of_le_of_lt h.Bn (lt_of_block h.hn))), h.Bn, h.nv, h.nw⟩
theorem Nx.below {B gn gv gw : Nat} {A : Option Addr} {c : Nat} {v : List Nd} {p : Nat} {w w' : World} (h : Nx B gn gv gw A c v p w) (hb : Below w.heap.size w w') : Nx B gn gv gw A c v p w' :=
  h.grown (grown_below hb _) ((hb.block gn (lt_of_block h.hn)).trans h.hn)
theorem Nx.set {B gn gv gw : Nat} {A : Option Addr} {c : Nat} {v : List Nd} {p : Nat} {w : World} (h : Nx B gn gv gw A c v p w) (p' : Nat) : Nx B gn gv gw A c v p' (w.setCell ⟨gn, 0, none⟩ (.int .i64 (p' : Int))) :=
  h.grown (grown_set w gn _) (one_setCell h.hn)
theorem Nx.sz {B gn gv gw : Nat} {A : Option Addr} {c : Nat} {v : List Nd} {p : Nat} {w : World} (h : Nx B gn gv gw A c v p w) : B ≤ w.heap.size := Nat.le_of_lt (Nat.lt_of_le_of_lt h.Bn (lt_of_block h.hn))
theorem Nx.all {B gn gv gw : Nat} {A : Option Addr} {c : Nat} {v : List Nd} {p : Nat} {w : World} (h : Nx B gn gv gw A c v p w) : RdB NdS w A v := h.rd.mono fun b hb => Nat.lt_of_lt_of_le hb h.sz
def Walked (d : Nat) (v : List Nd) (p gn : Nat) (w : World) (e : Ending) (w' : World) : Prop := w.grownBy w' (some gn) ∧ ∃ p' : Nat, w'.heap[gn]? = some (.cells #[.int .i64 (p' : Int)] 3 (0, 0)) ∧
  ((∃ r, restD d (v.drop p) = some r ∧ e = .returned (.bool true) ∧ p' = v.length - r.length) ∨ (restD d (v.drop p) = none ∧ e = .returned (.bool false)))
theorem Walked.no {d : Nat} {v : List Nd} {p p' gn : Nat} {w w' : World} (h : restD d (v.drop p) = none) (hg : w.grownBy w' (some gn)) (hn : w'.heap[gn]? = some (.cells #[.int .i64 (p' : Int)] 3 (0, 0))) : Walked d v p gn w (.returned (.bool false)) w' := ⟨hg, p', hn, .inr ⟨h, rfl⟩⟩
def Deeper (d : Nat) (B gn gv gw : Nat) (A : Option Addr) (c : Nat) (v : List Nd) : Prop := ∀ (z : Int) (p : Nat) (w : World), z + d = 13 → p ≤ v.length → Nx B gn gv gw A c v p w →
  Calls Tryz.prog 126 #[.int .i64 z, .pointer (some ⟨gn, 0, none⟩), .pointer (some ⟨gv, 0, none⟩), .pointer (some ⟨gw, 0, none⟩)] w (Walked d v p gn w)

theorem may_end (d : Nat) (B gn gv gw : Nat) (A : Option Addr) (c : Nat) (v : List Nd) (hd : d ≤ 12) (hl : v.length ≤ 512) (z : Int) (w : World) (hx : Nx B gn gv gw A c v v.length w) :
    Calls Tryz.prog 126 #[.int .i64 z, .pointer (some ⟨gn, 0, none⟩), .pointer (some ⟨gv, 0, none⟩), .pointer (some ⟨gw, 0, none⟩)] w (Walked d v v.length gn w) := by
  have HW : Hid (Walked d v v.length gn w (.returned (.bool false)) w) := Lib.hid (Walked.no (by rw [List.drop_of_length_le (Nat.le_refl _)]; cases d <;> rfl) (World.grownBy.refl _ _) hx.hn)
  obtain ⟨n, hn⟩ : ∃ n, v.length = n := ⟨_, rfl⟩
  have kn := cell_of_one hx.hn
  have fn := free_of_one hx.hn
  have kv := cell_of_one hx.hv
  rw [hn] at kn kv HW ⊢
  clear hx hl hn
  go_enter Tryz.func126, Tryz.ntmps126
  go_wp2_with fail
  go_ret
  exact HW.out
theorem may_bad (d : Nat) (B gn gv gw : Nat) (A : Option Addr) (c : Nat) (v : List Nd) (hd : d ≤ 12) (hl : v.length ≤ 512) (z : Int) (p : Nat) (hp : p < v.length) (hs : SmallN (v[p]'hp)) (hh : holdB (v[p]'hp) = false) (w : World) (hx : Nx B gn gv gw A c v p w) :
    Calls Tryz.prog 126 #[.int .i64 z, .pointer (some ⟨gn, 0, none⟩), .pointer (some ⟨gv, 0, none⟩), .pointer (some ⟨gw, 0, none⟩)] w (Walked d v p gn w) := by
  obtain ⟨b0, off, x, y, t, A1, c1, hA, hbB, hin, q0, q1, q2, q3, q4, q5⟩ := nd_at hx.rd hp
  obtain ⟨nd, hnd⟩ : ∃ nd, v[p]'hp = nd := ⟨_, rfl⟩
  rw [hnd] at hin q0 q3 q5 hs
  have hAt : NdAt nd x y t A1 c1 w := hin.keep (fun b hb => Nat.lt_of_lt_of_le hb hx.sz) fun _ _ _ => rfl
  have HX := Lib.hid hx
  have HPL : Hid (p < v.length) := Lib.hid hp
  have bk : (0 : Int) ≤ (p : Int) ∧ (p : Int) < (v.length : Int) := by omega
  have f0 : ((p : Int) == (v.length : Int)) = false := by simp; omega
  have bl : (v.length : Int) ≤ 512 := by omega
  obtain ⟨n, hn⟩ : ∃ n, v.length = n := ⟨_, rfl⟩
  have HLN := Lib.hid hn
  have kn := cell_of_one hx.hn
  have fn := free_of_one hx.hn
  have kv := cell_of_one hx.hv
  have HW : Hid (∀ w1, Below w.heap.size w w1 → Walked d v p gn w (.returned (.bool false)) w1) := Lib.hid fun w1 hb => Walked.no (by rw [restD_eq hp, if_neg (by rw [hh]; rintro ⟨h, _⟩; cases h)]) (grown_below hb _) (hx.below hb).hn
  rw [hnd] at hh
  have HC := Lib.hid (hold10 nd x y t A1 c1 w hAt hs false hh)
  unfold NdV at HC
  subst hA
  rw [hn] at kv f0 bk
  clear hx hl hin hAt hs hh hnd hbB hp hn
  go_enter Tryz.func126, Tryz.ntmps126
  go_wp2_with (first
    | (go_at_call 127; (with_reducible refine (HC.out).mono ?_); rintro e1 w1 ⟨rfl, hb1⟩; skip)
    | fail)
  go_ret
  exact HW.out w1 hb1
theorem nx_step {B gn gv gw : Nat} {A : Option Addr} {c : Nat} {v : List Nd} {p : Nat} {w w1 : World} (hx : Nx B gn gv gw A c v p w) (hb : Below w.heap.size w w1) (cs : Array Value) (T : TypeId) (V : World) (hV : (w1.setCell ⟨gn, 0, none⟩ (.int .i64 ((p : Int) + 1))).alloc (.cells cs T) = V) :
    Nx B gn gv gw A c v (p + 1) V ∧ w.grownBy V (some gn) ∧ V.heap[w1.heap.size]? = some (.cells cs T (0, 0)) := by
  have h1 := (hx.below hb).set (p + 1)
  have e : ((p + 1 : Nat) : Int) = (p : Int) + 1 := by omega
  rw [e] at h1
  have h2 := h1.below (stpA (Below.refl _ _) (.cells cs T))
  rw [hV] at h2
  refine ⟨h2, ?_, ?_⟩
  · rw [← hV]
    exact ((grown_below hb _).trans (grown_set w1 gn _)).trans (World.grownBy_alloc _ _ _)
  · rw [← hV]
    have := heap_alloc_new (w1.setCell ⟨gn, 0, none⟩ (.int .i64 ((p : Int) + 1))) (.cells cs T)
    rwa [World.size_setCell] at this
theorem may_deep (B gn gv gw : Nat) (A : Option Addr) (c : Nat) (v : List Nd) (hl : v.length ≤ 512) (p : Nat) (hp : p < v.length) (hs : SmallN (v[p]'hp)) (hh : holdB (v[p]'hp) = true) (hk : (v[p]'hp).kind = 1) (w : World) (hx : Nx B gn gv gw A c v p w) :
    Calls Tryz.prog 126 #[.int .i64 13, .pointer (some ⟨gn, 0, none⟩), .pointer (some ⟨gv, 0, none⟩), .pointer (some ⟨gw, 0, none⟩)] w (Walked 0 v p gn w) := by
  obtain ⟨b0, off, x, y, t, A1, c1, hA, hbB, hin, q0, q1, q2, q3, q4, q5⟩ := nd_at hx.rd hp
  obtain ⟨nd, hnd⟩ : ∃ nd, v[p]'hp = nd := ⟨_, rfl⟩
  rw [hnd] at hin q0 q3 q5 hs
  have hAt : NdAt nd x y t A1 c1 w := hin.keep (fun b hb => Nat.lt_of_lt_of_le hb hx.sz) fun _ _ _ => rfl
  have HX := Lib.hid hx
  have HPL : Hid (p < v.length) := Lib.hid hp
  have bk : (0 : Int) ≤ (p : Int) ∧ (p : Int) < (v.length : Int) := by omega
  have f0 : ((p : Int) == (v.length : Int)) = false := by simp; omega
  have bl : (v.length : Int) ≤ 512 := by omega
  obtain ⟨n, hn⟩ : ∃ n, v.length = n := ⟨_, rfl⟩
  have HLN := Lib.hid hn
  have kn := cell_of_one hx.hn
  have fn := free_of_one hx.hn
  have kv := cell_of_one hx.hv
  have HW : Hid (∀ V p', Nx B gn gv gw A c v p' V → w.grownBy V (some gn) → Walked 0 v p gn w (.returned (.bool false)) V) := Lib.hid fun V p' h1 h2 => Walked.no (by rw [restD_eq hp, if_neg (by rintro ⟨_, h⟩; exact h ⟨hk, rfl⟩)]) h2 h1.hn
  rw [hnd] at hh hk
  have HC := Lib.hid (hold10 nd x y t A1 c1 w hAt hs true hh)
  unfold NdV at HC
  obtain ⟨kd, hkd⟩ : ∃ kd, nd.kind = kd := ⟨_, rfl⟩
  obtain ⟨mm, hmm⟩ : ∃ mm, nd.many = mm := ⟨_, rfl⟩
  obtain ⟨n2, hn2⟩ : ∃ n2, nd.attrs.length = n2 := ⟨_, rfl⟩
  have HBS : Hid (b0 < w.heap.size) := Lib.hid (Nat.lt_of_lt_of_le hbB hx.sz)
  have ba := hin.lo
  have bb := hin.hi
  subst hA
  rw [hn] at kv f0 bk bl
  rw [hkd, hmm, hn2] at HC
  rw [hkd] at q0
  rw [hmm] at q5 ba bb
  rw [hn2] at q3
  obtain rfl : 1 = kd := by rw [← hkd, hk]
  rw [show ((1 : Nat) : Int) = 1 from rfl] at HC q0
  clear hx hl hin hAt hs hh hnd hbB hp hn hkd hmm hn2 hk
  go_enter Tryz.func126, Tryz.ntmps126
  go_wp2_with (first
    | (go_at_call 127; (with_reducible refine (HC.out).mono ?_); rintro e1 w1 ⟨rfl, hb1⟩; have HB1 := Lib.hid hb1; have HN1 := Lib.hid (HX.out.below hb1); have kn1 := cell_of_one HN1.out.hn; have fn1 := free_of_one HN1.out.hn; have kv1 := cell_of_one HN1.out.hv; have hq1 := fun o => (hb1.cell (p := ⟨b0, o, none⟩) HBS.out); have s0 := (hq1 _).trans q0; have s1 := (hq1 _).trans q1; have s2 := (hq1 _).trans q2; have s3 := (hq1 _).trans q3; have s4 := (hq1 _).trans q4; have s5 := (hq1 _).trans q5; have hgl : gn < w1.heap.size := lt_of_block HN1.out.hn; clear hq1 hb1)
    | fail)
  go_ret
  obtain ⟨g1, g2, _⟩ := nx_step HX.out HB1.out _ _ _ rfl
  exact HW.out _ _ g1 g2
theorem Walked.none {d : Nat} {v : List Nd} {p gn : Nat} {w : World} {e : Ending} {w' : World} (h : Walked d v p gn w e w') (hr : restD d (v.drop p) = none) : e = .returned (.bool false) ∧ w.grownBy w' (some gn) ∧ ∃ p' : Nat, w'.heap[gn]? = some (.cells #[.int .i64 (p' : Int)] 3 (0, 0)) := by
  obtain ⟨h1, p', h2, ⟨r, h3, _⟩ | ⟨_, h3⟩⟩ := h
  · rw [hr] at h3; cases h3
  · exact ⟨h3, h1, p', h2⟩
theorem Walked.some {d : Nat} {v r : List Nd} {p gn : Nat} {w : World} {e : Ending} {w' : World} (h : Walked d v p gn w e w') (hr : restD d (v.drop p) = some r) : e = .returned (.bool true) ∧ w.grownBy w' (some gn) ∧ w'.heap[gn]? = some (.cells #[.int .i64 ((v.length - r.length : Nat) : Int)] 3 (0, 0)) := by
  obtain ⟨h1, p', h2, ⟨r', h3, h4, h5⟩ | ⟨h3, _⟩⟩ := h
  · rw [hr] at h3
    obtain rfl := Option.some.inj h3
    exact ⟨h4, h1, by rw [h5] at h2; exact h2⟩
  · rw [hr] at h3; cases h3
theorem may_go1 (d : Nat) (B gn gv gw : Nat) (A : Option Addr) (c : Nat) (v : List Nd) (hd : d ≤ 12) (hl : v.length ≤ 512) (hh0 : 0 < d) (ih : 0 < d → Deeper (d - 1) B gn gv gw A c v) (z : Int) (hz : z + d = 13) (p : Nat) (hp : p < v.length) (hs : SmallN (v[p]'hp)) (hh : holdB (v[p]'hp) = true) (hk : (v[p]'hp).kind = 1) (w : World) (hx : Nx B gn gv gw A c v p w) :
    Calls Tryz.prog 126 #[.int .i64 z, .pointer (some ⟨gn, 0, none⟩), .pointer (some ⟨gv, 0, none⟩), .pointer (some ⟨gw, 0, none⟩)] w (Walked d v p gn w) := by
  obtain ⟨b0, off, x, y, t, A1, c1, hA, hbB, hin, q0, q1, q2, q3, q4, q5⟩ := nd_at hx.rd hp
  obtain ⟨nd, hnd⟩ : ∃ nd, v[p]'hp = nd := ⟨_, rfl⟩
  rw [hnd] at hin q0 q3 q5 hs
  have hAt : NdAt nd x y t A1 c1 w := hin.keep (fun b hb => Nat.lt_of_lt_of_le hb hx.sz) fun _ _ _ => rfl
  have HX := Lib.hid hx
  have HPL : Hid (p < v.length) := Lib.hid hp
  have bk : (0 : Int) ≤ (p : Int) ∧ (p : Int) < (v.length : Int) := by omega
  have f0 : ((p : Int) == (v.length : Int)) = false := by simp; omega
  have bl : (v.length : Int) ≤ 512 := by omega
  obtain ⟨n, hn⟩ : ∃ n, v.length = n := ⟨_, rfl⟩
  have HLN := Lib.hid hn
  have kn := cell_of_one hx.hn
  have fn := free_of_one hx.hn
  have kv := cell_of_one hx.hv
  have HRE : Hid (restD d (v.drop p) = (kidsD (restD (d - 1)) nd.many.toNat false (v.drop (p + 1))).map (·.2)) := Lib.hid (by rw [restD_eq hp, if_pos ⟨hh, by omega⟩, hnd])
  rw [hnd] at hh hk
  have hm0 : 0 ≤ nd.many := by unfold holdB at hh; simp at hh; exact hh.2
  have HC := Lib.hid (hold10 nd x y t A1 c1 w hAt hs true hh)
  unfold NdV at HC
  obtain ⟨kd, hkd⟩ : ∃ kd, nd.kind = kd := ⟨_, rfl⟩
  obtain ⟨mm, hmm⟩ : ∃ mm, nd.many = mm := ⟨_, rfl⟩
  obtain ⟨n2, hn2⟩ : ∃ n2, nd.attrs.length = n2 := ⟨_, rfl⟩
  have HBS : Hid (b0 < w.heap.size) := Lib.hid (Nat.lt_of_lt_of_le hbB hx.sz)
  have ba := hin.lo
  have bb := hin.hi
  subst hA
  rw [hn] at kv f0 bk bl
  rw [hkd, hmm, hn2] at HC
  rw [hkd] at q0
  rw [hmm] at q5 ba bb
  rw [hn2] at q3
  rw [hmm] at HRE hm0
  have HYES : Hid (∀ (V : World) (l' : List Nd) (p' : Nat) (b : Bool), kidsD (restD (d - 1)) mm.toNat false (v.drop (p + 1)) = some (b, l') → w.grownBy V (some gn) → V.heap[gn]? = some (.cells #[.int .i64 (p' : Int)] 3 (0, 0)) → p' = v.length - l'.length → Walked d v p gn w (.returned (.bool true)) V) := Lib.hid fun V l' p' b h1 h2 h3 h4 => ⟨h2, p', h3, .inl ⟨l', by rw [HRE.out, h1]; rfl, rfl, h4⟩⟩
  have HNO : Hid (∀ (V : World) (p' : Nat), kidsD (restD (d - 1)) mm.toNat false (v.drop (p + 1)) = none → w.grownBy V (some gn) → V.heap[gn]? = some (.cells #[.int .i64 (p' : Int)] 3 (0, 0)) → Walked d v p gn w (.returned (.bool false)) V) := Lib.hid fun V p' h1 h2 h3 => Walked.no (by rw [HRE.out, h1]; rfl) h2 h3
  have HZ := Lib.hid hz
  have HIH := Lib.hid ih
  obtain rfl : 1 = kd := by rw [← hkd, hk]
  rw [show ((1 : Nat) : Int) = 1 from rfl] at HC q0
  have fz : decide ((12 : Int) < z) = false := decide_eq_false (by omega)
  have HD0 := Lib.hid hh0
  have bz : (1 : Int) ≤ z ∧ z ≤ 12 := by omega
  clear hx hl hin hAt hs hh hnd hbB hp hn hkd hmm hn2 hk hz ih hh0 hd
  go_enter Tryz.func126, Tryz.ntmps126
  go_wp2_with (first
    | (go_at_call 127; (with_reducible refine (HC.out).mono ?_); rintro e1 w1 ⟨rfl, hb1⟩; have HB1 := Lib.hid hb1; have HN1 := Lib.hid (HX.out.below hb1); have kn1 := cell_of_one HN1.out.hn; have fn1 := free_of_one HN1.out.hn; have kv1 := cell_of_one HN1.out.hv; have hq1 := fun o => (hb1.cell (p := ⟨b0, o, none⟩) HBS.out); have s0 := (hq1 _).trans q0; have s1 := (hq1 _).trans q1; have s2 := (hq1 _).trans q2; have s3 := (hq1 _).trans q3; have s4 := (hq1 _).trans q4; have s5 := (hq1 _).trans q5; have hgl : gn < w1.heap.size := lt_of_block HN1.out.hn; clear hq1 hb1)
    | fail)
  go_loopg [7, 36] n (fun gg x7 i wr => ∃ (j : Nat) (b : Bool) (p' : Nat), j + gg = n ∧ (j : Int) ≤ mm ∧ i = .int .i64 j ∧ x7 = .bool b ∧ kidsD (restD (d - 1)) j false (v.drop (p + 1)) = some (b, v.drop p') ∧ p' ≤ n ∧ Nx B gn gv gw (some ⟨b0, off, none⟩) c v p' wr ∧ w.grownBy wr (some gn))
  case atStart =>
    obtain ⟨g1, g2, _⟩ := nx_step HX.out HB1.out _ _ _ rfl
    exact ⟨0, false, p + 1, by omega, hm0, rfl, rfl, by rw [kidsD], by have := HPL.out; rw [HLN.out] at this; omega, g1, g2⟩
  case round =>
    obtain ⟨j, b, p', hjg, hjm, rfl, rfl, hkd, hpn, hnx, hgr⟩ := hrel
    have HNX := Lib.hid hnx
    have HGR := Lib.hid hgr
    have HKD := Lib.hid hkd
    clear kn1 fn1 kv1 s0 s1 s2 s3 s4 s5
    by_cases hlt : (j : Int) < mm
    · have kn2 := cell_of_one hnx.hn
      have kv2 := cell_of_one hnx.hv
      have kw2 := cell_of_one hnx.hw
      have HNXT : Hid _ := Lib.hid (kids_next hkd (m := mm.toNat) (by omega))
      have hcall := HIH.out HD0.out (z + 1) p' wr (by have := HZ.out; have := HD0.out; omega) (by rw [HLN.out]; exact hpn) hnx
      have HCALL := Lib.hid hcall
      rw [HLN.out] at kv2
      unfold mayF at kw2
      by_cases hpe : n ≤ p'
      · have hno : restD (d - 1) (v.drop p') = none := by rw [List.drop_of_length_le (by rw [HLN.out]; exact hpe)]; cases d - 1 <;> rfl
        have HF := Lib.hid (HNXT.out.1 (by rw [HLN.out]; exact hpe))
        have HNO2 := Lib.hid hno
        have f5 : decide ((p' : Int) < (n : Int)) = false := decide_eq_false (by omega)
        clear hcall hno hkd hnx hgr HNXT
        go_wp2_with (first
          | (go_at_call 126; (with_reducible refine (HCALL.out).mono ?_); rintro e2 w2 hwk; obtain ⟨rfl, hg2, p2, hn2⟩ := hwk.none HNO2.out)
          | fail)
        go_ret
        exact HNO.out w2 p2 HF.out (HGR.out.trans hg2) hn2
      · have hp2 : p' < v.length := by rw [HLN.out]; omega
        obtain ⟨bb', off', x', y', t', A1', c1', hA', _, hin', u0, _, _, _, _, _⟩ := nd_at hnx.rd hp2
        injection hA' with hA'
        injection hA' with ha1 ha2 _
        subst ha1 ha2
        obtain ⟨k2, hk2⟩ : ∃ k2, (v[p']'hp2).kind = k2 := ⟨_, rfl⟩
        rw [hk2] at u0
        have HN2 := Lib.hid (HNXT.out.2 hp2)
        rw [hk2] at HN2
        have f5 : decide ((p' : Int) < (n : Int)) = true := decide_eq_true (by rw [← HLN.out]; omega)
        have bp : (0 : Int) ≤ (p' : Int) ∧ (p' : Int) < (n : Int) := by rw [← HLN.out]; omega
        obtain ⟨tt, htt⟩ : ∃ tt, ((k2 : Int) == 2) = tt := ⟨_, rfl⟩
        have HTT : Hid (decide (k2 = 2) = tt) := Lib.hid (by rw [← htt, Bool.eq_iff_iff]; simp; omega)
        have HT2 : Hid (tt = true ↔ k2 = 2) := Lib.hid (by rw [← HTT.out]; simp)
        clear hcall hkd hnx hgr HNXT hk2 hin'
        have stop : ∀ (W : World), kidsD (restD (d - 1)) mm.toNat false (v.drop (p + 1)) = none → W = wr → Walked d v p gn w (.returned (.bool false)) wr := fun W h _ => HNO.out wr p' h HGR.out HNX.out.hn
        have HSTOP := Lib.hid stop
        clear stop
        by_cases hboth : b = true ∧ tt = true
        · obtain ⟨rfl, rfl⟩ := hboth
          have HF := Lib.hid (HN2.out.1 ⟨rfl, HT2.out.1 rfl⟩)
          go_wp2_with fail
          go_ret
          exact HSTOP.out wr HF.out rfl
        · have HB3 : Hid (¬ (b = true ∧ k2 = 2)) := Lib.hid fun h => hboth ⟨h.1, HT2.out.2 h.2⟩
          have hbt : (b = false ∧ tt = false) ∨ (b = false ∧ tt = true) ∨ (b = true ∧ tt = false) := by
            cases b <;> cases tt <;> simp_all
          clear hboth
          cases hr : restD (d - 1) (v.drop p') with
          | none =>
            have HR2 := Lib.hid hr
            have HF := Lib.hid (HN2.out.2.1 hr)
            clear hr
            rcases hbt with ⟨rfl, rfl⟩ | ⟨rfl, rfl⟩ | ⟨rfl, rfl⟩
            all_goals
              go_wp2_with (first
                | (go_at_call 126; (with_reducible refine (HCALL.out).mono ?_); rintro e2 w2 hwk; obtain ⟨rfl, hg2, p2, hn2⟩ := hwk.none HR2.out)
                | fail)
              go_ret
              exact HNO.out w2 p2 HF.out (HGR.out.trans hg2) hn2
          | some r =>
            have HR2 := Lib.hid hr
            have hnxt := HN2.out.2.2 r HB3.out hr
            have hsuf := restD_drop hr
            have hlr := restD_len hr
            rw [List.length_drop] at hsuf hlr
            have hlen := kidsD_len hnxt
            rw [List.length_drop] at hlen
            rw [List.drop_drop, show p' + (v.length - p' - r.length) = v.length - r.length by omega] at hsuf
            obtain ⟨p3, hp3⟩ : ∃ p3, v.length - r.length = p3 := ⟨_, rfl⟩
            rw [hp3] at hsuf
            have HNXT2 : Hid (kidsD (restD (d - 1)) (j + 1) false (v.drop (p + 1)) = some (tt, v.drop p3)) := Lib.hid (by rw [hnxt, HTT.out, ← hsuf])
            have HP3 := Lib.hid hp3
            have HJ : Hid (j + 1 ≤ n ∧ p3 ≤ n) := Lib.hid (by have := HLN.out; omega)
            clear hr hnxt hsuf hlr hlen hp3
            rcases hbt with ⟨rfl, rfl⟩ | ⟨rfl, rfl⟩ | ⟨rfl, rfl⟩
            all_goals
              go_wp2_with (first
                | (go_at_call 126; (with_reducible refine (HCALL.out).mono ?_); rintro e2 w2 hwk; obtain ⟨rfl, hg2, hn2⟩ := hwk.some HR2.out; rw [HP3.out] at hn2; have HG2 := Lib.hid hg2; have HN9 := Lib.hid hn2; clear hg2 hn2 hwk)
                | fail)
              go_roundg (gk - 1)
              case rel => exact ⟨j + 1, _, p3, by have := HJ.out; omega, by omega, by go_num, rfl, HNXT2.out, HJ.out.2, HNX.out.grown HG2.out HN9.out, HGR.out.trans HG2.out⟩
              case measure => have := HJ.out; omega
    · have hje : mm.toNat = j := by omega
      have HY := Lib.hid (HYES.out wr (v.drop p') p' b (by rw [hje]; exact hkd) hgr hnx.hn (by rw [List.length_drop, HLN.out]; omega))
      clear hkd hnx hgr hje
      go_wp2_with fail
      go_ret
      exact HY.out
theorem may_go2 (d : Nat) (B gn gv gw : Nat) (A : Option Addr) (c : Nat) (v : List Nd) (hd : d ≤ 12) (hl : v.length ≤ 512) (hh0 : True) (ih : 0 < d → Deeper (d - 1) B gn gv gw A c v) (z : Int) (hz : z + d = 13) (p : Nat) (hp : p < v.length) (hs : SmallN (v[p]'hp)) (hh : holdB (v[p]'hp) = true) (hk : (v[p]'hp).kind = 2) (w : World) (hx : Nx B gn gv gw A c v p w) :
    Calls Tryz.prog 126 #[.int .i64 z, .pointer (some ⟨gn, 0, none⟩), .pointer (some ⟨gv, 0, none⟩), .pointer (some ⟨gw, 0, none⟩)] w (Walked d v p gn w) := by
  obtain ⟨b0, off, x, y, t, A1, c1, hA, hbB, hin, q0, q1, q2, q3, q4, q5⟩ := nd_at hx.rd hp
  obtain ⟨nd, hnd⟩ : ∃ nd, v[p]'hp = nd := ⟨_, rfl⟩
  rw [hnd] at hin q0 q3 q5 hs
  have hAt : NdAt nd x y t A1 c1 w := hin.keep (fun b hb => Nat.lt_of_lt_of_le hb hx.sz) fun _ _ _ => rfl
  have HX := Lib.hid hx
  have HPL : Hid (p < v.length) := Lib.hid hp
  have bk : (0 : Int) ≤ (p : Int) ∧ (p : Int) < (v.length : Int) := by omega
  have f0 : ((p : Int) == (v.length : Int)) = false := by simp; omega
  have bl : (v.length : Int) ≤ 512 := by omega
  obtain ⟨n, hn⟩ : ∃ n, v.length = n := ⟨_, rfl⟩
  have HLN := Lib.hid hn
  have kn := cell_of_one hx.hn
  have fn := free_of_one hx.hn
  have kv := cell_of_one hx.hv
  have HRE : Hid (restD d (v.drop p) = (kidsD (restD (d - 1)) nd.many.toNat false (v.drop (p + 1))).map (·.2)) := Lib.hid (by rw [restD_eq hp, if_pos ⟨hh, by omega⟩, hnd])
  rw [hnd] at hh hk
  have hm0 : 0 ≤ nd.many := by unfold holdB at hh; simp at hh; exact hh.2
  have HC := Lib.hid (hold10 nd x y t A1 c1 w hAt hs true hh)
  unfold NdV at HC
  obtain ⟨kd, hkd⟩ : ∃ kd, nd.kind = kd := ⟨_, rfl⟩
  obtain ⟨mm, hmm⟩ : ∃ mm, nd.many = mm := ⟨_, rfl⟩
  obtain ⟨n2, hn2⟩ : ∃ n2, nd.attrs.length = n2 := ⟨_, rfl⟩
  have HBS : Hid (b0 < w.heap.size) := Lib.hid (Nat.lt_of_lt_of_le hbB hx.sz)
  have ba := hin.lo
  have bb := hin.hi
  subst hA
  rw [hn] at kv f0 bk bl
  rw [hkd, hmm, hn2] at HC
  rw [hkd] at q0
  rw [hmm] at q5 ba bb
  rw [hn2] at q3
  have hm2 : nd.many = 0 := (ndOk_two (by unfold holdB at hh; simp at hh; exact hh.1) hk).1
  rw [hmm] at HRE hm0
  have HYES : Hid (∀ (V : World) (l' : List Nd) (p' : Nat) (b : Bool), kidsD (restD (d - 1)) mm.toNat false (v.drop (p + 1)) = some (b, l') → w.grownBy V (some gn) → V.heap[gn]? = some (.cells #[.int .i64 (p' : Int)] 3 (0, 0)) → p' = v.length - l'.length → Walked d v p gn w (.returned (.bool true)) V) := Lib.hid fun V l' p' b h1 h2 h3 h4 => ⟨h2, p', h3, .inl ⟨l', by rw [HRE.out, h1]; rfl, rfl, h4⟩⟩
  have HNO : Hid (∀ (V : World) (p' : Nat), kidsD (restD (d - 1)) mm.toNat false (v.drop (p + 1)) = none → w.grownBy V (some gn) → V.heap[gn]? = some (.cells #[.int .i64 (p' : Int)] 3 (0, 0)) → Walked d v p gn w (.returned (.bool false)) V) := Lib.hid fun V p' h1 h2 h3 => Walked.no (by rw [HRE.out, h1]; rfl) h2 h3
  have HZ := Lib.hid hz
  have HIH := Lib.hid ih
  obtain rfl : 2 = kd := by rw [← hkd, hk]
  rw [show ((2 : Nat) : Int) = 2 from rfl] at HC q0
  have HM2 : Hid (mm = 0) := Lib.hid (by rw [← hmm]; exact hm2)
  clear hm2
  clear hx hl hin hAt hs hh hnd hbB hp hn hkd hmm hn2 hk hz ih hh0 hd
  go_enter Tryz.func126, Tryz.ntmps126
  go_wp2_with (first
    | (go_at_call 127; (with_reducible refine (HC.out).mono ?_); rintro e1 w1 ⟨rfl, hb1⟩; have HB1 := Lib.hid hb1; have HN1 := Lib.hid (HX.out.below hb1); have kn1 := cell_of_one HN1.out.hn; have fn1 := free_of_one HN1.out.hn; have kv1 := cell_of_one HN1.out.hv; have hq1 := fun o => (hb1.cell (p := ⟨b0, o, none⟩) HBS.out); have s0 := (hq1 _).trans q0; have s1 := (hq1 _).trans q1; have s2 := (hq1 _).trans q2; have s3 := (hq1 _).trans q3; have s4 := (hq1 _).trans q4; have s5 := (hq1 _).trans q5; have hgl : gn < w1.heap.size := lt_of_block HN1.out.hn; clear hq1 hb1)
    | fail)
  go_loopg [7, 36] n (fun gg x7 i wr => ∃ (j : Nat) (b : Bool) (p' : Nat), j + gg = n ∧ (j : Int) ≤ mm ∧ i = .int .i64 j ∧ x7 = .bool b ∧ kidsD (restD (d - 1)) j false (v.drop (p + 1)) = some (b, v.drop p') ∧ p' ≤ n ∧ Nx B gn gv gw (some ⟨b0, off, none⟩) c v p' wr ∧ w.grownBy wr (some gn))
  case atStart =>
    obtain ⟨g1, g2, _⟩ := nx_step HX.out HB1.out _ _ _ rfl
    exact ⟨0, false, p + 1, by omega, hm0, rfl, rfl, by rw [kidsD], by have := HPL.out; rw [HLN.out] at this; omega, g1, g2⟩
  case round =>
    obtain ⟨j, b, p', hjg, hjm, rfl, rfl, hkd, hpn, hnx, hgr⟩ := hrel
    have HNX := Lib.hid hnx
    have HGR := Lib.hid hgr
    have HKD := Lib.hid hkd
    clear kn1 fn1 kv1 s0 s1 s2 s3 s4 s5
    by_cases hlt : (j : Int) < mm
    · have := HM2.out
      omega
    · have hje : mm.toNat = j := by omega
      have HY := Lib.hid (HYES.out wr (v.drop p') p' b (by rw [hje]; exact hkd) hgr hnx.hn (by rw [List.length_drop, HLN.out]; omega))
      clear hkd hnx hgr hje
      go_wp2_with fail
      go_ret
      exact HY.out
theorem may_all (B gn gv gw : Nat) (A : Option Addr) (c : Nat) (v : List Nd) (hl : v.length ≤ 512) (hsm : ∀ n ∈ v, SmallN n) : ∀ d, d ≤ 12 → Deeper d B gn gv gw A c v := by
  intro d
  induction d with
  | zero =>
    intro _ z p w hz hp hx
    obtain rfl : z = 13 := by omega
    by_cases hpl : p < v.length
    · have hs := hsm _ (List.getElem_mem hpl)
      cases hh : holdB (v[p]'hpl) with
      | false => exact may_bad 0 B gn gv gw A c v (by omega) hl 13 p hpl hs hh w hx
      | true =>
        by_cases hk : (v[p]'hpl).kind = 1
        · exact may_deep B gn gv gw A c v hl p hpl hs hh hk w hx
        · have hk2 : (v[p]'hpl).kind = 2 := (ndOk_kind (by unfold holdB at hh; simp at hh; exact hh.1)).resolve_left hk
          exact may_go2 0 B gn gv gw A c v (by omega) hl trivial (fun h => by omega) 13 (by omega) p hpl hs hh hk2 w hx
    · obtain rfl : p = v.length := by omega
      exact may_end 0 B gn gv gw A c v (by omega) hl 13 w hx
  | succ d ih =>
    intro hd z p w hz hp hx
    by_cases hpl : p < v.length
    · have hs := hsm _ (List.getElem_mem hpl)
      cases hh : holdB (v[p]'hpl) with
      | false => exact may_bad (d + 1) B gn gv gw A c v hd hl z p hpl hs hh w hx
      | true =>
        have ih' : 0 < d + 1 → Deeper (d + 1 - 1) B gn gv gw A c v := fun _ => ih (by omega)
        by_cases hk : (v[p]'hpl).kind = 1
        · exact may_go1 (d + 1) B gn gv gw A c v hd hl (by omega) ih' z hz p hpl hs hh hk w hx
        · have hk2 : (v[p]'hpl).kind = 2 := (ndOk_kind (by unfold holdB at hh; simp at hh; exact hh.1)).resolve_left hk
          exact may_go2 (d + 1) B gn gv gw A c v hd hl trivial ih' z hz p hpl hs hh hk2 w hx
    · obtain rfl : p = v.length := by omega
      exact may_end (d + 1) B gn gv gw A c v hd hl z w hx
theorem nx_made {w : World} {A : Option Addr} {c : Nat} {v : List Nd} (hr : RdB NdS w A v) :
    Nx w.heap.size (w.heap.size + 1) w.heap.size (w.heap.size + 1 + 1) A c v 0 (((w.alloc (.cells #[.slice A v.length c] 29)).alloc (.cells #[.int .i64 0] 3)).alloc (.cells #[mayF (w.heap.size + 1) w.heap.size (w.heap.size + 1 + 1)] 152)) := by
  have h0 := heap_alloc_new w (.cells #[.slice A v.length c] 29)
  have h1 := heap_alloc_new (w.alloc (.cells #[.slice A v.length c] 29)) (.cells #[.int .i64 0] 3)
  rw [World.size_alloc] at h1
  have h2 := heap_alloc_new ((w.alloc (.cells #[.slice A v.length c] 29)).alloc (.cells #[.int .i64 0] 3)) (.cells #[mayF (w.heap.size + 1) w.heap.size (w.heap.size + 1 + 1)] 152)
  rw [World.size_alloc, World.size_alloc] at h2
  refine ⟨kept_heap h1 (stpA (Below.refl _ _) _), kept_heap (kept_heap h0 (stpA (Below.refl _ _) _)) (stpA (Below.refl _ _) _), h2, ?_, by omega, by omega, by omega⟩
  exact hr.keep (fun _ hb => hb) fun b o hb => (stpA (stpA (stpA (Below.refl w.heap.size w) _) _) _).cell (p := ⟨b, o, none⟩) hb
theorem may_none (A : Option Addr) (c : Nat) (w : World) : Calls Tryz.prog 89 #[.slice A 0 c] w fun e w' => e = .returned (.bool false) ∧ Below w.heap.size w w' := by
  go_enter Tryz.func89, Tryz.ntmps89
  go_wp2_with fail
  go_ret
  exact ⟨rfl, (Below.refl _ _).alloc (Nat.le_refl _) _⟩
theorem may_many (A : Option Addr) (n c : Nat) (w : World) (hn : 512 < n) : Calls Tryz.prog 89 #[.slice A n c] w fun e w' => e = .returned (.bool false) ∧ Below w.heap.size w w' := by
  have f0 : ((n : Int) == 0) = false := by simp; omega
  have f1 : decide ((512 : Int) < (n : Int)) = true := decide_eq_true (by omega)
  go_enter Tryz.func89, Tryz.ntmps89
  go_wp2_with fail
  go_ret
  exact ⟨rfl, (Below.refl _ _).alloc (Nat.le_refl _) _⟩
theorem may_text (A : Option Addr) (n c : Nat) (v : List Nd) (w : World) (hr : RdB NdS w A v) (hn : v.length = n) (h0 : 0 < n) (h5 : n ≤ 512) (hk : (v[0]'(by omega)).kind ≠ 1) : Calls Tryz.prog 89 #[.slice A n c] w fun e w' => e = .returned (.bool false) ∧ Below w.heap.size w w' := by
  obtain ⟨b0, off, x, y, t, A1, c1, hA, hbB, hin, q0, -⟩ := nd_at hr (k := 0) (by omega)
  have f0 : ((n : Int) == 0) = false := by simp; omega
  have f1 : decide ((512 : Int) < (n : Int)) = false := decide_eq_false (by omega)
  have bn : (0 : Int) < (n : Int) ∧ (n : Int) ≤ 512 := by omega
  rw [Nat.zero_mul, Nat.add_zero] at q0
  obtain ⟨kd, hkd⟩ : ∃ kd, (v[0]'(by omega)).kind = kd := ⟨_, rfl⟩
  rw [hkd] at q0
  have f2 : ((kd : Int) != 1) = true := by simp; omega
  have f3 : ((kd : Int) == 1) = false := by simp; omega
  subst hA
  clear hr hn hin hk hkd
  go_enter Tryz.func89, Tryz.ntmps89
  go_wp2_with fail
  go_ret
  exact ⟨rfl, (Below.refl _ _).alloc (Nat.le_refl _) _⟩
theorem may_yes (A : Option Addr) (n c : Nat) (v : List Nd) (w : World) (hr : RdB NdS w A v) (hn : v.length = n) (hsm : ∀ n ∈ v, SmallN n) (h0 : 0 < n) (h5 : n ≤ 512) (hk : (v[0]'(by omega)).kind = 1) (r : List Nd) (hrr : restD 12 v = some r) (q : Bool) (hq : mayV v = q) : Calls Tryz.prog 89 #[.slice A n c] w fun e w' => e = .returned (.bool q) ∧ Below w.heap.size w w' := by
  have hmf : ∀ (fn : Fn) (first cap : Array Value) (w : World), (Instr.makeFunc fn first cap).run Tryz.prog w = .ok (.func fn first cap) w := fun _ _ _ _ => rfl
  obtain ⟨b0, off, x, y, t, A1, c1, hA, hbB, hin, q0, -⟩ := nd_at hr (k := 0) (by omega)
  have f0 : ((n : Int) == 0) = false := by simp; omega
  have f1 : decide ((512 : Int) < (n : Int)) = false := decide_eq_false (by omega)
  have bn : (0 : Int) < (n : Int) ∧ (n : Int) ≤ 512 := by omega
  rw [Nat.zero_mul, Nat.add_zero] at q0
  rw [hk] at q0
  rw [show ((1 : Nat) : Int) = 1 from rfl] at q0
  have hnx := nx_made (c := c) hr
  have hcall := may_all w.heap.size (w.heap.size + 1) w.heap.size (w.heap.size + 1 + 1) A c v (by omega) hsm 12 (by omega) 1 0 _ (by omega) (by omega) hnx
  have HBB : Hid (Below w.heap.size w (((w.alloc (.cells #[.slice A v.length c] 29)).alloc (.cells #[.int .i64 0] 3)).alloc (.cells #[mayF (w.heap.size + 1) w.heap.size (w.heap.size + 1 + 1)] 152))) := Lib.hid (stpA (stpA (stpA (Below.refl _ _) _) _) _)
  have hans := hcall.mono fun e w' h => (h.some (r := r) (by rw [List.drop_zero]; exact hrr))
  have hrl := restD_len hrr
  have HQ : Hid ((((v.length - r.length : Nat) : Int) == (n : Int)) = q) := Lib.hid (by
    rw [← hq, mayV_one (by omega) ⟨v[0]'(by omega), v.drop 1, by rw [← List.drop_eq_getElem_cons (by omega), List.drop_zero], hk⟩, hrr, ← hn, Bool.eq_iff_iff]
    simp
    constructor
    · intro h; exact List.eq_nil_of_length_eq_zero (by omega)
    · intro h; rw [h]; simp)
  have HV : Hid (∀ w', ((((w.alloc (.cells #[.slice A v.length c] 29)).alloc (.cells #[.int .i64 0] 3)).alloc (.cells #[mayF (w.heap.size + 1) w.heap.size (w.heap.size + 1 + 1)] 152))).grownBy w' (some (w.heap.size + 1)) → w'.heap[w.heap.size]? = some (.cells #[.slice A v.length c] 29 (0, 0))) := Lib.hid fun w' hg => (hg.block w.heap.size (lt_of_block hnx.hv) (fun e => by injection e with e; omega)).trans hnx.hv
  obtain ⟨p9, hp9⟩ : ∃ p9, v.length - r.length = p9 := ⟨_, rfl⟩
  rw [hp9] at hans HQ
  rw [hn] at hans HBB HV
  unfold mayF at hans HBB HV
  have HA := Lib.hid hans
  subst hA
  obtain ⟨q2, hq2⟩ : ∃ q2, ((p9 : Int) == (n : Int)) = q2 := ⟨_, rfl⟩
  rw [hq2] at HQ
  clear hr hn hsm hin hnx hcall hk hrr hq hans hrl hp9
  go_enter Tryz.func89, Tryz.ntmps89
  go_wp2_with (first
    | (go_at_call 126; (with_reducible refine (HA.out).mono ?_); rintro e2 w2 ⟨rfl, hg2, hn2⟩; have kn := cell_of_one hn2; have kv := cell_of_one (HV.out w2 hg2))
    | fail)
  go_ret
  exact ⟨ret_b HQ.out, HBB.out.trans (below_grown hg2 (by omega) (by simp))⟩
theorem may_none2 (A : Option Addr) (n c : Nat) (v : List Nd) (w : World) (hr : RdB NdS w A v) (hn : v.length = n) (hsm : ∀ n ∈ v, SmallN n) (h0 : 0 < n) (h5 : n ≤ 512) (hk : (v[0]'(by omega)).kind = 1) (hrr : restD 12 v = none) (q : Bool) (hq : mayV v = q) : Calls Tryz.prog 89 #[.slice A n c] w fun e w' => e = .returned (.bool q) ∧ Below w.heap.size w w' := by
  have hmf : ∀ (fn : Fn) (first cap : Array Value) (w : World), (Instr.makeFunc fn first cap).run Tryz.prog w = .ok (.func fn first cap) w := fun _ _ _ _ => rfl
  obtain ⟨b0, off, x, y, t, A1, c1, hA, hbB, hin, q0, -⟩ := nd_at hr (k := 0) (by omega)
  have f0 : ((n : Int) == 0) = false := by simp; omega
  have f1 : decide ((512 : Int) < (n : Int)) = false := decide_eq_false (by omega)
  have bn : (0 : Int) < (n : Int) ∧ (n : Int) ≤ 512 := by omega
  rw [Nat.zero_mul, Nat.add_zero] at q0
  rw [hk] at q0
  rw [show ((1 : Nat) : Int) = 1 from rfl] at q0
  have hnx := nx_made (c := c) hr
  have hcall := may_all w.heap.size (w.heap.size + 1) w.heap.size (w.heap.size + 1 + 1) A c v (by omega) hsm 12 (by omega) 1 0 _ (by omega) (by omega) hnx
  have HBB : Hid (Below w.heap.size w (((w.alloc (.cells #[.slice A v.length c] 29)).alloc (.cells #[.int .i64 0] 3)).alloc (.cells #[mayF (w.heap.size + 1) w.heap.size (w.heap.size + 1 + 1)] 152))) := Lib.hid (stpA (stpA (stpA (Below.refl _ _) _) _) _)
  have hans := hcall.mono fun e w' h => (h.none (by rw [List.drop_zero]; exact hrr))
  obtain rfl : false = q := by
    rw [← hq, mayV_one (by omega) ⟨v[0]'(by omega), v.drop 1, by rw [← List.drop_eq_getElem_cons (by omega), List.drop_zero], hk⟩, hrr]
    rfl
  rw [hn] at hans HBB
  unfold mayF at hans HBB
  have HA := Lib.hid hans
  subst hA
  clear hr hn hsm hin hnx hcall hk hrr hq hans
  go_enter Tryz.func89, Tryz.ntmps89
  go_wp2_with (first
    | (go_at_call 126; (with_reducible refine (HA.out).mono ?_); rintro e2 w2 ⟨rfl, hg2, p2, hn2⟩)
    | fail)
  go_ret
  exact ⟨rfl, HBB.out.trans (below_grown hg2 (by omega) (by simp))⟩
theorem may10 (A : Option Addr) (n c : Nat) (v : List Nd) (w : World) (hr : RdB NdS w A v) (hn : v.length = n) (hmax : n ≤ 9223372036854775807) (hsm : n ≤ 512 → ∀ m ∈ v, SmallN m) (q : Bool) (hq : mayV v = q) : Calls Tryz.prog 89 #[.slice A n c] w fun e w' => e = .returned (.bool q) ∧ Below w.heap.size w w' := by
  by_cases h0 : n = 0
  · subst h0
    have : v = [] := List.eq_nil_of_length_eq_zero hn
    subst this
    obtain rfl : false = q := by rw [← hq]; rfl
    exact may_none A c w
  · by_cases h5 : n ≤ 512
    · by_cases hk : (v[0]'(by omega)).kind = 1
      · cases hrr : restD 12 v with
        | none => exact may_none2 A n c v w hr hn (hsm h5) (by omega) h5 hk hrr q hq
        | some r => exact may_yes A n c v w hr hn (hsm h5) (by omega) h5 hk r hrr q hq
      · obtain rfl : false = q := by
          rw [← hq]
          refine (mayV_no ?_).symm
          rintro ⟨_, m, l, rfl, k⟩
          exact hk k
        exact may_text A n c v w hr hn (by omega) h5 hk
    · obtain rfl : false = q := by
        rw [← hq]
        exact (mayV_no fun h => h5 (by omega)).symm
      exact may_many A n c w (by omega)
theorem checkv (A : Option Addr) (n c : Nat) (v : List Nd) (w : World) (hr : RdB NdS w A v) (hn : v.length = n) (hmax : n ≤ 9223372036854775807) (hsm : n ≤ 512 → ∀ m ∈ v, SmallN m) (q : Int) (hq : checkV v = q) : Calls Tryz.prog 48 #[.slice A n c] w fun e w' => e = .returned (.int .i64 q) ∧ Below w.heap.size w w' := by
  unfold checkV at hq
  cases hm : mayV v with
  | true =>
    rw [hm, if_pos rfl] at hq
    subst hq
    have HC := Lib.hid (may10 A n c v w hr hn hmax hsm true hm)
    clear hr hn hmax hsm hm
    go_enter Tryz.func48, Tryz.ntmps48
    go_wp2_with (first
      | (go_at_call 89; (with_reducible refine (HC.out).mono ?_); rintro e1 w1 ⟨rfl, hb1⟩)
      | fail)
    go_ret
    exact ⟨rfl, hb1⟩
  | false =>
    rw [hm, if_neg (by decide)] at hq
    subst hq
    have HC := Lib.hid (may10 A n c v w hr hn hmax hsm false hm)
    clear hr hn hmax hsm hm
    go_enter Tryz.func48, Tryz.ntmps48
    go_wp2_with (first
      | (go_at_call 89; (with_reducible refine (HC.out).mono ?_); rintro e1 w1 ⟨rfl, hb1⟩)
      | fail)
    go_ret
    exact ⟨rfl, hb1⟩
end Hx
end Go.Proofs.YtioiifdcgdoanaaGreatDoor
namespace Go.Proofs.YtioiifdcgdoanaaGreatDoor
open Go.RowKit
namespace Hx
open Lx Tr Tx Nmb Es Ns
set_option maxRecDepth 100000
set_option maxHeartbeats 16000000
set_option linter.unusedVariables false
def OkR (g : List Nd → Option (List Nd)) : Prop := ∀ l r, g l = some r → ∃ p, l = p ++ r ∧ ∀ n ∈ p, ndOk n = true
theorem kids_okR {g : List Nd → Option (List Nd)} (hg : OkR g) : ∀ (k : Nat) (b : Bool) (l : List Nd) (b' : Bool) (r : List Nd), kidsD g k b l = some (b', r) → ∃ p, l = p ++ r ∧ ∀ n ∈ p, ndOk n = true
  | 0, b, l, b', r, h => by
    rw [kidsD] at h
    obtain ⟨rfl, rfl⟩ := (Prod.mk.injEq _ _ _ _).mp (Option.some.inj h)
    exact ⟨[], rfl, fun n hn => by cases hn⟩
  | k + 1, b, [], b', r, h => by rw [kidsD] at h; cases h
  | k + 1, b, n :: l, b', r, h => by
    rw [kidsD] at h
    split at h
    · cases h
    · split at h
      · cases h
      · rename_i y hy
        obtain ⟨p, e1, h1⟩ := hg _ _ hy
        obtain ⟨p2, e2, h2⟩ := kids_okR hg k _ _ _ _ h
        refine ⟨p ++ p2, by rw [e1, e2, List.append_assoc], fun m hm => ?_⟩
        rcases List.mem_append.1 hm with hm | hm
        · exact h1 m hm
        · exact h2 m hm
theorem rest_okR : ∀ d, OkR (restD d)
  | d, [], r, h => by cases d <;> (rw [restD] at h; cases h)
  | 0, n :: l, r, h => by
    rw [restD] at h
    split at h
    · rename_i hn
      injection h with h
      subst h
      exact ⟨[n], rfl, fun m hm => by rw [List.mem_singleton] at hm; rw [hm]; exact hn.1⟩
    · cases h
  | d + 1, n :: l, r, h => by
    rw [restD] at h
    split at h
    · rename_i hn
      cases hk : kidsD (restD d) n.many.toNat false l with
      | none => rw [hk] at h; cases h
      | some y =>
        rw [hk] at h
        obtain ⟨b', y⟩ := y
        have h : y = r := Option.some.inj h
        subst h
        obtain ⟨p, e, hp⟩ := kids_okR (rest_okR d) _ _ _ _ _ hk
        refine ⟨n :: p, by rw [e]; rfl, fun m hm => ?_⟩
        rcases List.mem_cons.1 hm with rfl | hm
        · exact hn.1
        · exact hp m hm
    · cases h
theorem may_ndOk {v : List Nd} (h : mayV v = true) : ∀ n ∈ v, ndOk n = true := by
  obtain ⟨_, _, h3⟩ := mayV_iff.1 h
  obtain ⟨p, e, hp⟩ := rest_okR 12 v [] h3
  rw [List.append_nil] at e
  rw [e]
  exact hp
theorem text_mayNs {n : Nd} (h : ndOk n = true) (hk : n.kind ≠ 1) : mayNs n = true := by
  unfold ndOk at h
  rw [if_neg hk] at h
  split at h
  · simp only [Bool.and_eq_true, List.isEmpty_iff] at h
    obtain ⟨⟨⟨⟨⟨_, hs⟩, ha⟩, _⟩, _⟩, _⟩ := h
    unfold mayNs
    rw [hs, ha, decide_eq_true hk]
    rfl
  · cases h
theorem ns_from (v : List Nd) (j : Nat) (t : Nd) (hj : j < v.length) (ha : v[j]'hj = t) : (v.drop j).all mayNs = (mayNs t && (v.drop (j + 1)).all mayNs) := by
  rw [List.drop_eq_getElem_cons hj, List.all_cons, ha]
theorem check11 (A : Option Addr) (n c : Nat) (v : List Nd) (w : World) (hr : RdB NdS w A v) (hn : v.length = n) (hmax : n ≤ 9223372036854775807) (hsm : n ≤ 512 → ∀ m ∈ v, SmallN m) (q : Int) (hq : checkS v = q) :
    Calls Tryz.prog 24 #[.slice A n c] w fun e w' => e = .returned (.int .i64 q) ∧ Below w.heap.size w w' := by
  have HCK := Lib.hid (checkv A n c v w hr hn hmax hsm _ rfl)
  have HR := Lib.hid hr
  have HN := Lib.hid hn
  cases hm : mayV v with
  | false =>
    have e1 : checkV v = 8 := by unfold checkV; rw [hm]; rfl
    obtain rfl : q = 8 := by rw [← hq]; unfold checkS mayS; rw [hm, Bool.and_false]; rfl
    rw [e1] at HCK
    clear hr hn hmax hsm hq hm
    go_enter Tryz.func24, Tryz.ntmps24
    go_wp2_with (first
      | (go_at_call 48; (with_reducible refine (HCK.out).mono ?_); rintro e1 w1 ⟨rfl, hb1⟩; have HB1 := Lib.hid hb1; clear hb1)
      | fail)
    go_ret
    exact ⟨rfl, HB1.out⟩
  | true =>
    have e1 : checkV v = 0 := by unfold checkV; rw [hm]; rfl
    have hn5 : n ≤ 512 := by rw [← hn]; exact (mayV_iff.1 hm).1
    have bn : (n : Int) ≤ 512 := by omega
    have HSM := Lib.hid (hsm hn5)
    have HOK := Lib.hid (may_ndOk hm)
    obtain ⟨qb, hqb⟩ : ∃ qb, v.all mayNs = qb := ⟨_, rfl⟩
    have HQ : Hid (q = if qb = true then 0 else 8) := Lib.hid (by rw [← hq]; unfold checkS mayS; rw [hm, Bool.and_true, hqb])
    have HQB := Lib.hid hqb
    rw [e1] at HCK
    clear hr hn hmax hsm hq hm e1 hqb
    go_enter Tryz.func24, Tryz.ntmps24
    go_wp2_with (first
      | (go_at_call 48; (with_reducible refine (HCK.out).mono ?_); rintro e1 w1 ⟨rfl, hb1⟩; have HB1 := Lib.hid hb1; clear hb1)
      | fail)
    go_loopg [10] n (fun gg i wr => ∃ j : Nat, j + gg = n ∧ i = .int .i64 j ∧ (v.drop j).all mayNs = qb ∧ Below w.heap.size w wr)
    case atStart => exact ⟨0, by omega, rfl, HQB.out, HB1.out⟩
    case round =>
      obtain ⟨j, hjg, rfl, hall, hbw⟩ := hrel
      have HBW := Lib.hid hbw
      by_cases hlt : j < n
      · have hjl : j < v.length := by rw [HN.out]; exact hlt
        obtain ⟨b0, off, x, y, z, A1, c1, hA, hbB, hin, c0w, c1w, c2w, c3w, c4w, c5w⟩ := nd_at HR.out hjl
        have hsm := HSM.out _ (List.getElem_mem hjl)
        have hok := HOK.out _ (List.getElem_mem hjl)
        obtain ⟨t, ht⟩ : ∃ t, v[j]'hjl = t := ⟨_, rfl⟩
        rw [ht] at hin c0w c3w c5w hsm hok
        have c0 := (hbw.cell (p := ⟨b0, _, none⟩) hbB).trans c0w
        have c1' := (hbw.cell (p := ⟨b0, _, none⟩) hbB).trans c1w
        have c2 := (hbw.cell (p := ⟨b0, _, none⟩) hbB).trans c2w
        have c3 := (hbw.cell (p := ⟨b0, _, none⟩) hbB).trans c3w
        have c4 := (hbw.cell (p := ⟨b0, _, none⟩) hbB).trans c4w
        have c5 := (hbw.cell (p := ⟨b0, _, none⟩) hbB).trans c5w
        have hal := ns_from v j t hjl ht
        rw [hall] at hal
        have bj : (0 : Int) ≤ (j : Int) ∧ (j : Int) < (n : Int) := by omega
        have hnd : NdAt t x y z A1 c1 w := hin
        subst hA
        by_cases hk : t.kind = 1
        · obtain ⟨tq, htq⟩ : ∃ tq, mayNs t = tq := ⟨_, rfl⟩
          have HMT : Hid (∀ W, Below w.heap.size w W → Calls Tryz.prog 61 #[.agg #[.int .u8 1, .string x, .string y, .slice A1 t.attrs.length c1, .string z, .int .i64 t.many]] W fun e w' => e = .returned (.bool tq) ∧ Below W.heap.size W w') := Lib.hid fun W hW => by
            have := maytell11 t x y z A1 c1 W (hnd.on hW) hsm hk tq htq
            unfold NdV at this
            rw [hk] at this
            exact this
          rw [hk] at c0
          have c0 : wr.cell? ⟨b0, off + j * 6, none⟩ = some (.int .u8 1) := c0
          rw [htq] at hal
          obtain ⟨W1, hW1⟩ : ∃ W1, wr.alloc (.cells #[.int .u8 1, .string x, .string y, .slice A1 t.attrs.length c1, .string z, .int .i64 t.many] 28) = W1 := ⟨_, rfl⟩
          have HA1 : Hid (Below w.heap.size w W1) := Lib.hid (by rw [← hW1]; exact hbw.alloc hbw.size _)
          have HY1 : Hid (W1.heap[wr.heap.size]? = some (.cells #[.int .u8 1, .string x, .string y, .slice A1 t.attrs.length c1, .string z, .int .i64 t.many] 28 (0, 0))) := Lib.hid (by rw [← hW1]; exact heap_alloc_new wr _)
          have k10 := cellV W1 _ 0 _ _ _ HY1.out
          have k11 := cellV W1 _ 1 _ _ _ HY1.out
          have k12 := cellV W1 _ 2 _ _ _ HY1.out
          have k13 := cellV W1 _ 3 _ _ _ HY1.out
          have k14 := cellV W1 _ 4 _ _ _ HY1.out
          have k15 := cellV W1 _ 5 _ _ _ HY1.out
          have HAL := Lib.hid hal
          clear hall hbw hin hnd c0w c1w c2w c3w c4w c5w hal hsm hok ht hk htq hjl hbB
          cases tq with
          | false =>
            obtain rfl : qb = false := by rw [HAL.out]; rfl
            obtain rfl : q = 8 := HQ.out
            go_wp2_with (first
              | (refine wpList_store_row rfl _ _ _ rfl wr.heap.size #[.int .u8 1, .string x, .string y, .slice A1 t.attrs.length c1, .string z, .int .i64 t.many] rfl rfl 28 #[.int .u8 0, .string ⟨#[]⟩, .string ⟨#[]⟩, .slice none 0 0, .string ⟨#[]⟩, .int .i64 0] (heap_alloc_new _ _) sizeNd rfl (by simp [Value.oneCell']) ?_; rw [World.setRow_alloc_new, hW1])
              | (go_at_call 61; (with_reducible refine (HMT.out W1 HA1.out).mono ?_); rintro e2 w2 ⟨rfl, hb2⟩; have HB2 : Hid (Below w.heap.size w w2) := Lib.hid (bel_in9 HA1.out hb2); clear hb2)
              | fail)
            go_ret
            exact ⟨rfl, HB2.out⟩
          | true =>
            have HAL2 : Hid ((v.drop (j + 1)).all mayNs = qb) := Lib.hid (by rw [HAL.out]; rfl)
            go_wp2_with (first
              | (refine wpList_store_row rfl _ _ _ rfl wr.heap.size #[.int .u8 1, .string x, .string y, .slice A1 t.attrs.length c1, .string z, .int .i64 t.many] rfl rfl 28 #[.int .u8 0, .string ⟨#[]⟩, .string ⟨#[]⟩, .slice none 0 0, .string ⟨#[]⟩, .int .i64 0] (heap_alloc_new _ _) sizeNd rfl (by simp [Value.oneCell']) ?_; rw [World.setRow_alloc_new, hW1])
              | (go_at_call 61; (with_reducible refine (HMT.out W1 HA1.out).mono ?_); rintro e2 w2 ⟨rfl, hb2⟩; have HB2 : Hid (Below w.heap.size w w2) := Lib.hid (bel_in9 HA1.out hb2); clear hb2)
              | fail)
            go_roundg (gk - 1)
            case measure => omega
            case rel => exact ⟨j + 1, by omega, by go_num, HAL2.out, HB2.out⟩
        · have HAL2 : Hid ((v.drop (j + 1)).all mayNs = qb) := Lib.hid (by rw [hal, text_mayNs hok hk]; rfl)
          have hk2 : ¬ ((t.kind : Int) = 1) := by omega
          obtain ⟨W1, hW1⟩ : ∃ W1, wr.alloc (.cells #[.int .u8 (t.kind : Int), .string x, .string y, .slice A1 t.attrs.length c1, .string z, .int .i64 t.many] 28) = W1 := ⟨_, rfl⟩
          have HA1 : Hid (Below w.heap.size w W1) := Lib.hid (by rw [← hW1]; exact hbw.alloc hbw.size _)
          have HY1 : Hid (W1.heap[wr.heap.size]? = some (.cells #[.int .u8 (t.kind : Int), .string x, .string y, .slice A1 t.attrs.length c1, .string z, .int .i64 t.many] 28 (0, 0))) := Lib.hid (by rw [← hW1]; exact heap_alloc_new wr _)
          have k10 := cellV W1 _ 0 _ _ _ HY1.out
          clear hall hbw hin hnd c0w c1w c2w c3w c4w c5w hal hsm hok ht hk hjl hbB
          go_wp2_with (first
            | (refine wpList_store_row rfl _ _ _ rfl wr.heap.size #[.int .u8 (t.kind : Int), .string x, .string y, .slice A1 t.attrs.length c1, .string z, .int .i64 t.many] rfl rfl 28 #[.int .u8 0, .string ⟨#[]⟩, .string ⟨#[]⟩, .slice none 0 0, .string ⟨#[]⟩, .int .i64 0] (heap_alloc_new _ _) sizeNd rfl (by simp [Value.oneCell']) ?_; rw [World.setRow_alloc_new, hW1])
            | fail)
          go_roundg (gk - 1)
          case measure => omega
          case rel => exact ⟨j + 1, by omega, by go_num, HAL2.out, HA1.out⟩
      · obtain rfl : j = n := by omega
        have hjj : ¬ ((j : Int) < (j : Int)) := by omega
        rw [← HN.out, List.drop_length] at hall
        obtain rfl : qb = true := hall.symm
        obtain rfl : q = 0 := HQ.out
        clear hbw hall
        go_wp2_with fail
        go_ret
        exact ⟨rfl, HBW.out⟩
end Hx
end Go.Proofs.YtioiifdcgdoanaaGreatDoor
namespace Go.Proofs.YtioiifdcgdoanaaGreatDoor
open Go.RowKit
namespace Hx
open Lx Tr Tx Nmb Es
set_option linter.unusedVariables false
theorem kids_more {d j m : Nat} {b b0 : Bool} {l r0 : List Nd} {v : List Nd} {p' : Nat} (hall : kidsD (restD d) m false l = some (b0, r0)) (h : kidsD (restD d) j false l = some (b, v.drop p')) (hj : j < m) :
    ∃ (hp : p' < v.length) (r : List Nd), restD d (v.drop p') = some r ∧ kidsD (restD d) (j + 1) false l = some (decide ((v[p']'hp).kind = 2), v.drop (v.length - r.length)) ∧ r.length + p' < v.length := by
  obtain ⟨h1, h2⟩ := kids_next h hj
  by_cases hp : p' < v.length
  · obtain ⟨h3, h4, h5⟩ := h2 hp
    have hb : ¬ (b = true ∧ (v[p']'hp).kind = 2) := fun hb => by rw [h3 hb] at hall; cases hall
    cases hr : restD d (v.drop p') with
    | none => rw [h4 hr] at hall; cases hall
    | some r =>
      have hk := h5 r hb hr
      have hsuf := restD_drop hr
      have hlr := restD_len hr
      rw [List.length_drop] at hsuf hlr
      rw [List.drop_drop, show p' + (v.length - p' - r.length) = v.length - r.length by omega] at hsuf
      exact ⟨hp, r, rfl, by rw [hk, ← hsuf], by omega⟩
  · rw [h1 (by omega)] at hall; cases hall
end Hx
end Go.Proofs.YtioiifdcgdoanaaGreatDoor
namespace Go.Proofs.YtioiifdcgdoanaaGreatDoor
open Go.RowKit
namespace Hx
open Lx Tr Tx Nmb Es Ns
set_option linter.unusedVariables false
theorem walkK_snoc {g : List Nd → (List Nd × Bool) × List Nd} : ∀ (j : Nat) (l : List Nd), walkK g (j + 1) l = (((walkK g j l).1.1 ++ (g (walkK g j l).2).1.1, (walkK g j l).1.2 && (g (walkK g j l).2).1.2), (g (walkK g j l).2).2) := by
  intro j
  induction j with
  | zero => intro l; simp [walkK]
  | succ j ih =>
    intro l
    have h1 : ∀ k, walkK g (k + 1) l = (((g l).1.1 ++ (walkK g k (g l).2).1.1, (g l).1.2 && (walkK g k (g l).2).1.2), (walkK g k (g l).2).2) := fun k => by rw [walkK]
    rw [h1 (j + 1), ih, h1 j]
    simp [Bool.and_assoc]
theorem walkK_no {g : List Nd → (List Nd × Bool) × List Nd} {j k : Nat} {l : List Nd} (h : (walkK g j l).1.2 = false) (hjk : j ≤ k) : (walkK g k l).1.2 = false := by
  obtain ⟨d, rfl⟩ : ∃ d, k = j + d := ⟨k - j, by omega⟩
  clear hjk
  induction d with
  | zero => exact h
  | succ d ih => rw [← Nat.add_assoc, walkK_snoc, ih]; rfl
theorem walkD_text {ε : Type} {f : ε → Nd → Nd × Bool} {dn : ε → Nd → ε} {d : Nat} {e : ε} {n : Nd} {l : List Nd} (hk : n.kind = 2) : walkD f dn d e (n :: l) = (([n], true), l) := by
  cases d with
  | zero => rw [walkD]
  | succ d => rw [walkD, if_pos hk]
theorem walkD_elem {ε : Type} {f : ε → Nd → Nd × Bool} {dn : ε → Nd → ε} {d : Nat} {e : ε} {n : Nd} {l : List Nd} (hk : n.kind ≠ 2) : walkD f dn (d + 1) e (n :: l) = (((f e n).1 :: (walkK (walkD f dn d (dn e n)) n.many.toNat l).1.1, (f e n).2 && (walkK (walkD f dn d (dn e n)) n.many.toNat l).1.2), (walkK (walkD f dn d (dn e n)) n.many.toNat l).2) := by
  rw [walkD, if_neg hk]
theorem names_nodup {l : List At} (h : (l.map key).Nodup) (hr : ∀ a ∈ l, a.space = []) : (l.map (·.name)).Nodup := by
  unfold List.Nodup at h ⊢
  rw [List.pairwise_map] at h ⊢
  refine List.Pairwise.imp_of_mem (fun {a b} ha hb hab e => hab ?_) h
  unfold key
  rw [hr a ha, hr b hb, e]
def OffN (base : Nat) (V : Value) (w : World) (k : Nat) : Prop := base ≤ k ∧ k < w.heap.size ∧ some k ≠ V.ownBlock
structure RwSt (clo : Value) (tc : TypeId) (B base gv gl gt : Nat) (A : Option Addr) (c : Nat) (v : List Nd) (L : List NB) (V : Value) (wr : World) : Prop where
  hv : wr.heap[gv]? = some (.cells #[.slice A v.length c] 29 (0, 0))
  hl : wr.heap[gl]? = some (.cells #[V] 29 (0, 0))
  ht : wr.heap[gt]? = some (.cells #[clo] tc (0, 0))
  rd : RdS NdS wr (fun b => b < B) A v
  own : wr.ownsRow base 28 6 V L.length (L.flatMap nbCells)
  nd : ∀ b ∈ L, NdIn b.n b.x b.y b.z b.A b.c wr (OffN base V wr)
  ord : B ≤ gv ∧ gv < gl ∧ gl < gt ∧ gt < base
  sz : base ≤ wr.heap.size
structure FrR (B gl : Nat) (V : Value) (w : World) (V' : Value) (w' : World) : Prop where
  bel : Below B w w'
  blk : ∀ k, k < w.heap.size → k ≠ gl → some k ≠ V.ownBlock → w'.heap[k]? = w.heap[k]?
  lie : ∀ k, k < w.heap.size → V'.ownBlock = some k → V.ownBlock = some k
theorem FrR.refl (B gl : Nat) (V : Value) (w : World) : FrR B gl V w V w := ⟨Below.refl _ _, fun _ _ _ _ => rfl, fun _ _ h => h⟩
theorem FrR.trans {B gl : Nat} {V V1 V2 : Value} {w w1 w2 : World} (h : FrR B gl V w V1 w1) (k : FrR B gl V1 w1 V2 w2) : FrR B gl V w V2 w2 :=
  ⟨h.bel.trans k.bel, fun q h1 h3 h4 => (k.blk q (Nat.lt_of_lt_of_le h1 h.bel.size) h3 (fun e => h4 (h.lie q h1 e.symm).symm)).trans (h.blk q h1 h3 h4), fun q h1 h2 => h.lie q h1 (k.lie q (Nat.lt_of_lt_of_le h1 h.bel.size) h2)⟩
theorem FrR.of_below {B gl : Nat} {V : Value} {w w' : World} (h : Below w.heap.size w w') (hB : B ≤ w.heap.size) : FrR B gl V w V w' := ⟨h.mono hB, fun k hk _ _ => h.block k hk, fun _ _ e => e⟩
theorem FrR.map {B gl base m : Nat} {V V' : Value} {w w' : World} {D : List (List UInt8 × AB)} {n : Nat} {xs : List Value} {x : Value} {T : TypeId} (h : FrR B gl V w V' w') (hm : MapD w m D) (ho : w.ownsRow base 28 6 V n xs) (hl : w.heap[gl]? = some (.cells #[x] T (0, 0))) : MapD w' m D := by
  obtain ⟨es, cl, hb, he⟩ := hm
  refine MapD.kept ⟨es, cl, hb, he⟩ (h.blk m (lt_heap hb) (fun e => ?_) fun e => ?_)
  · rw [e, hl] at hb; cases hb
  · rcases ho.2 with ⟨e1, _⟩ | ⟨g, cap, cur, e1, _, h2, _⟩
    · rw [e1] at e; cases e
    · rw [e1] at e
      have e : m = g := by simpa [Value.ownBlock] using e
      rw [e, h2] at hb
      cases hb
section
variable {clo : Value} {tc : TypeId} {B base gv gl gt : Nat} {A : Option Addr} {c : Nat} {v : List Nd} {L : List NB} {V : Value} {wr : World}
theorem RwSt.below (h : RwSt clo tc B base gv gl gt A c v L V wr) {w' : World} (k : Below wr.heap.size wr w') : RwSt clo tc B base gv gl gt A c v L V w' :=
  ⟨kept_heap h.hv k, kept_heap h.hl k, kept_heap h.ht k, h.rd.keep (fun _ hb => hb) fun b o hb => k.cell (p := ⟨b, o, none⟩) (by have := h.ord.1; have := lt_heap h.hv; show b < _; omega), own_belowK h.own k (Nat.le_refl _),
   fun b hb => (h.nd b hb).keep (fun q hq => ⟨hq.1, Nat.lt_of_lt_of_le hq.2.1 k.size, hq.2.2⟩) fun q o hq => k.cell (p := ⟨q, o, none⟩) hq.2.1, h.ord, Nat.le_trans h.sz k.size⟩
theorem RwSt.push (h : RwSt clo tc B base gv gl gt A c v L V wr) {b : NB} {ob : Obj} {w6 : World} {g4 c4 : Nat} (hR : NdIn b.n b.x b.y b.z b.A b.c wr (OffN base V wr))
    (hown : w6.ownsRow base 28 6 (.slice (some ⟨g4, 0, none⟩) (L.length + 1) c4) (L.length + 1) (L.flatMap nbCells ++ nbCells b)) (hgr : (wr.alloc ob).grownBy w6 V.ownBlock) (hlie : V.ownBlock = some g4 ∨ g4 = wr.heap.size + 1) :
    RwSt clo tc B base gv gl gt A c v (L ++ [b]) (.slice (some ⟨g4, 0, none⟩) (L.length + 1) c4) (w6.setCell ⟨gl, 0, none⟩ (.slice (some ⟨g4, 0, none⟩) (L.length + 1) c4)) ∧
    FrR B gl V wr (.slice (some ⟨g4, 0, none⟩) (L.length + 1) c4) (w6.setCell ⟨gl, 0, none⟩ (.slice (some ⟨g4, 0, none⟩) (L.length + 1) c4)) := by
  have ho := h.ord
  have hsz := h.sz
  have hs6 := hgr.size
  rw [World.size_alloc] at hs6
  have hV : ∀ q, V.ownBlock = some q → base ≤ q ∧ q < wr.heap.size := fun q hq => h.own.lt q hq
  have stay : ∀ q, q < wr.heap.size → some q ≠ V.ownBlock → w6.heap[q]? = wr.heap[q]? := fun q hq hne => by
    rw [hgr.block q (by rw [World.size_alloc]; omega) hne, Below.heap_alloc _ _ _ hq]
  have low : ∀ q, q < base → some q ≠ V.ownBlock := fun q hq e => by have := (hV q e.symm).1; omega
  have all : ∀ q, q < wr.heap.size → q ≠ gl → some q ≠ V.ownBlock → (w6.setCell ⟨gl, 0, none⟩ (.slice (some ⟨g4, 0, none⟩) (L.length + 1) c4)).heap[q]? = wr.heap[q]? := fun q hq hne hne2 => (set_other w6 gl 0 q _ hne).trans (stay q hq hne2)
  have hlen : (L ++ [b]).length = L.length + 1 := by simp
  have new : ∀ (b' : NB), NdIn b'.n b'.x b'.y b'.z b'.A b'.c wr (OffN base V wr) → NdIn b'.n b'.x b'.y b'.z b'.A b'.c (w6.setCell ⟨gl, 0, none⟩ (.slice (some ⟨g4, 0, none⟩) (L.length + 1) c4)) (OffN base (.slice (some ⟨g4, 0, none⟩) (L.length + 1) c4) (w6.setCell ⟨gl, 0, none⟩ (.slice (some ⟨g4, 0, none⟩) (L.length + 1) c4))) := fun b' h1 =>
    h1.keep (fun q hq => ⟨hq.1, by have := hq.2.1; rw [World.size_setCell]; omega, fun e2 => by
      have e3 : q = g4 := by simpa [Value.ownBlock] using e2
      rcases hlie with e4 | e4
      · exact hq.2.2 (by rw [e4, e3])
      · have := hq.2.1; omega⟩) fun q o hq => cell_blk (all q hq.2.1 (by have := hq.1; omega) hq.2.2)
  refine ⟨⟨(all gv (by omega) (by omega) (low _ (by omega))).trans h.hv, one_setCell ((stay gl (by omega) (low _ (by omega))).trans h.hl), (all gt (by omega) (by omega) (low _ (by omega))).trans h.ht,
    h.rd.keep (fun _ hb => hb) fun q o hb => cell_blk (all q (by omega) (by omega) (low _ (by omega))), ?_, fun b' hb => ?_, h.ord, by rw [World.size_setCell]; omega⟩, ?_, fun k hk h2 h3 => all k hk h2 h3, fun k hk e => ?_⟩
  · have := own_setCell hown gl 0 (by omega) (.slice (some ⟨g4, 0, none⟩) (L.length + 1) c4)
    rw [hlen, List.flatMap_append]
    simpa using this
  · rcases List.mem_append.1 hb with hb | hb
    · exact new b' (h.nd b' hb)
    · obtain rfl := List.mem_singleton.1 hb
      exact new _ hR
  · exact (((Below.refl B wr).alloc (by omega) ob).grown hgr (by rw [World.size_alloc]; omega) (fun q hq => by have := (hV q hq).1; omega)).setCell (p := ⟨gl, 0, none⟩) (by show B ≤ gl; omega) _
  · have e3 : g4 = k := by simpa [Value.ownBlock] using e
    rcases hlie with e4 | e4
    · rw [e4, e3]
    · omega
theorem RwSt.read (h : RwSt clo tc B base gv gl gt A c v L V wr) : ∃ A1 c1, V = .slice A1 L.length c1 ∧ RdB NdS wr A1 (L.map NB.n) := by
  obtain ⟨A1, c1, rfl⟩ := own_form2 h.own
  obtain ⟨r1, r2, r3, r4, r5⟩ := RdS.of_own (C := NdS) (S := fun b => b < wr.heap.size) nbCells NB.n (fun _ => rfl) (by decide) L (fun b hm => ⟨b.x, b.y, b.z, b.A, b.c, rfl, (h.nd b hm).keep (fun k hk => hk.2.1) fun _ _ _ => rfl⟩) (fun g hg => (h.own.lt g hg).2) h.own
  exact ⟨A1, c1, rfl, r1⟩
end
end Hx
end Go.Proofs.YtioiifdcgdoanaaGreatDoor
