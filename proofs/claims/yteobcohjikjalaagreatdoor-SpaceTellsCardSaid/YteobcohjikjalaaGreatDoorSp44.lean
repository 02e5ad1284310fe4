/-
  Texts of one seat, put together: SpaU.
-/
import Derived.Test.YteobcohjikjalaaGreatDoorSp39
import Derived.Test.YteobcohjikjalaaGreatDoorSp43
set_option linter.unusedSimpArgs false
namespace Go.Proofs.YteobcohjikjalaaGreatDoor
open Go.RowKit
namespace Hx
open Lx Tr Tx Nmb Es Ns
set_option maxRecDepth 100000
set_option maxHeartbeats 16000000
set_option linter.unusedVariables false
def barClo (gv gl gt : Nat) : Value := .func (.func 26) #[] #[.pointer (some ⟨gv, 0, none⟩), .pointer (some ⟨gl, 0, none⟩), .pointer (some ⟨gt, 0, none⟩)]
theorem bar_text (B base gv gl gt : Nat) (A : Option Addr) (c : Nat) (v : List Nd) (hl : v.length ≤ 512) (o : ByteArray) (d : Nat) (L : List NB) (V : Value) (w : World) (hp : L.length < v.length) (h : RwSt (barClo gv gl gt) 55 B base gv gl gt A c v L V w) (hk : (v[L.length]'hp).kind = 2) (hok : ndOk (v[L.length]'hp) = true) :
    Calls Tryz.prog 26 #[.string o, .pointer (some ⟨gv, 0, none⟩), .pointer (some ⟨gl, 0, none⟩), .pointer (some ⟨gt, 0, none⟩)] w (WalkTo (barClo gv gl gt) 55 B base gv gl gt A c v L V (walkD bareF bareDn d o.data.toList (v.drop L.length)) w) := by
  obtain ⟨i0, hi, hz0, hz1, hz2⟩ := info_parts infoNd
  have HI := Lib.hid hi
  have HZ0 := Lib.hid hz0
  have HZ1 := Lib.hid hz1
  have HZ2 := Lib.hid hz2
  obtain ⟨Va, Vc, rfl⟩ := own_form2 h.own
  obtain ⟨b0, off, x, y, t, A1, c1, hA, hbB, hin, q0, q1, q2, q3, q4, q5⟩ := nd_at h.rd hp
  have hBw : B ≤ w.heap.size := by have := h.ord; have := h.sz; omega
  have hdr := List.drop_eq_getElem_cons hp
  obtain ⟨nd, hnd⟩ : ∃ nd, v[L.length]'hp = nd := ⟨_, rfl⟩
  rw [hnd] at hin q0 q3 q5 hdr hk hok
  rw [hdr]
  obtain ⟨n, hn⟩ : ∃ n, v.length = n := ⟨_, rfl⟩
  have HLN := Lib.hid hn
  obtain ⟨n1, hn1⟩ : ∃ n1, nd.attrs.length = n1 := ⟨_, rfl⟩
  have bp : (0 : Int) ≤ (L.length : Int) ∧ (L.length : Int) < (n : Int) := by omega
  have bn : (n : Int) ≤ 512 := by omega
  have HPN : Hid (L.length ≤ 512) := Lib.hid (by omega)
  have kv := cell_of_one h.hv
  have kl := cell_of_one h.hl
  have HST := Lib.hid h
  rw [hn] at kv
  rw [hn1] at q3
  have HIN := Lib.hid hin
  rw [walkD_text hk]
  obtain ⟨mm, hmm⟩ : ∃ mm, nd.many = mm := ⟨_, rfl⟩
  rw [hmm] at q5
  have HCE : Hid (nbCells ⟨nd, x, y, t, A1, c1⟩ = [.int .u8 2, .string x, .string y, .slice A1 n1 c1, .string t, .int .i64 mm]) := Lib.hid (by unfold nbCells ndCells; rw [hk, hn1, hmm]; rfl)
  have HAT := Lib.hid (ndOk_two hok hk).2.2.2.1
  rw [hk, show ((2 : Nat) : Int) = 2 from rfl] at q0
  obtain ⟨W0, hW0⟩ : ∃ W0, w.alloc (.cells #[.int .u8 2, .string x, .string y, .slice A1 n1 c1, .string t, .int .i64 mm] 39) = W0 := ⟨_, rfl⟩
  have HB0 : Hid (Below w.heap.size w W0) := Lib.hid (by rw [← hW0]; exact stpA (Below.refl _ _) _)
  have HX0 : Hid (W0.heap[w.heap.size]? = some (.cells #[.int .u8 2, .string x, .string y, .slice A1 n1 c1, .string t, .int .i64 mm] 39 (0, 0))) := Lib.hid (by rw [← hW0]; exact heap_alloc_new w _)
  have HS0 := Lib.hid (h.below HB0.out)
  have k00 := cellV W0 _ 0 _ _ _ HX0.out
  have kl0 := cell_of_one HS0.out.hl
  have hBw2 := Lib.hid hBw
  subst hA
  clear hi hz0 hz1 hz2 h hin hdr hk hok hnd hbB hBw hn1 hmm hn hl hp
  go_enter Tryz.func26, Tryz.ntmps26
  go_wp2_with (first
    | (refine wpList_store_row rfl _ _ _ rfl w.heap.size #[.int .u8 2, .string x, .string y, .slice A1 n1 c1, .string t, .int .i64 mm] rfl rfl 39 #[.int .u8 0, .string ⟨#[]⟩, .string ⟨#[]⟩, .slice none 0 0, .string ⟨#[]⟩, .int .i64 0] (heap_alloc_new _ _) sizeNd rfl (by simp [Value.oneCell']) ?_; rw [World.setRow_alloc_new, hW0])
    | (refine wpList_load_row rfl _ _ rfl w.heap.size rfl 39 #[.int .u8 2, .string x, .string y, .slice A1 n1 c1, .string t, .int .i64 mm] (0, 0) _ HX0.out Tryz.underlying39 rfl sizeNd ?_)
    | (at_builtin; refine wpList_append_own_at _ rfl (.tmp 15) (.tmp 17) 22 rfl base 39 i0 (.agg #[.int .u8 0, .string ⟨#[]⟩, .string ⟨#[]⟩, .slice none 0 0, .string ⟨#[]⟩, .int .i64 0]) 6 88 Tryz.underlying22 HI.out HZ0.out HZ1.out HZ2.out rfl (by decide) _ L.length _ rfl (own_belowK HS0.out.own (stpA (Below.refl _ _) _) (Nat.le_refl _)) ⟨W0.heap.size, 0, none⟩ 1 1 [.int .u8 2, .string x, .string y, .slice A1 n1 c1, .string t, .int .i64 mm] rfl rfl (new_at W0 [.int .u8 2, .string x, .string y, .slice A1 n1 c1, .string t, .int .i64 mm] 39 _ rfl) (by simp [Value.oneCell']) (by have := HPN.out; unfold maxLen; omega) (by have := HPN.out; omega) (by have := HS0.out.sz; rw [World.size_alloc]; omega) ?_; intro v5 w5 hown5 hgr5 _ hat5; obtain ⟨g5, c5, rfl⟩ := own_form3 hown5; rw [← HCE.out] at hown5; have HPU5 := Lib.hid (HS0.out.push (b := ⟨nd, x, y, t, A1, c1⟩) (HIN.out.plain HAT.out) hown5 hgr5 (by have := at_row hat5; rwa [World.size_alloc] at this)); have hgl5 : w5.heap[gl]? = some (.cells #[.slice Va L.length Vc] 22 (0, 0)) := (hgr5.block _ (by rw [World.size_alloc]; have := lt_heap HS0.out.hl; omega) (fun e => by have := (HS0.out.own.lt _ e.symm).1; have := HS0.out.ord; omega)).trans ((Below.heap_alloc _ _ _ (lt_heap HS0.out.hl)).trans HS0.out.hl); have kl5 := cellV w5 gl 0 _ _ _ hgl5; have fl5 := freeV w5 gl 0 _ _ hgl5; clear hown5 hgr5 hat5 hgl5)
    | fail)
  go_ret
  exact ⟨[⟨nd, x, y, t, A1, c1⟩], _, rfl, (FrR.of_below HB0.out hBw2.out).trans HPU5.out.2, HPU5.out.1, fun _ => rfl⟩
def BarIH (B base gv gl gt : Nat) (A : Option Addr) (c : Nat) (v : List Nd) (d : Nat) : Prop := ∀ (o : ByteArray) (L : List NB) (V : Value) (r : List Nd) (w : World), (∀ W, Below B w W → TbH W) → L.length < v.length → restD d (v.drop L.length) = some r → RwSt (barClo gv gl gt) 55 B base gv gl gt A c v L V w →
    Calls Tryz.prog 26 #[.string o, .pointer (some ⟨gv, 0, none⟩), .pointer (some ⟨gl, 0, none⟩), .pointer (some ⟨gt, 0, none⟩)] w (WalkTo (barClo gv gl gt) 55 B base gv gl gt A c v L V (walkD bareF bareDn d o.data.toList (v.drop L.length)) w)
theorem own_lowS {w : World} {base base' size n : Nat} {e : TypeId} {v : Value} {xs : List Value} (h : w.ownsRow base e size v n xs) (hb : base' ≤ base) : w.ownsRow base' e size v n xs := by
  refine ⟨h.1, ?_⟩
  rcases h.2 with h0 | ⟨g, cap, cur, hv, hg, rest⟩
  · exact .inl h0
  · exact .inr ⟨g, cap, cur, hv, Nat.le_trans hb hg, rest⟩
theorem bar_got {base m0 : Nat} {V : Value} {w5 w2 : World} {y t : ByteArray} {A' : Option Addr} {c' : Nat} {L : List AB} {o : List UInt8} {nd : Nd} (ho : w5.ownsRow (w2.heap.size + 2) 41 3 (.slice A' L.length c') L.length (L.flatMap abCells)) (hb : base ≤ w2.heap.size) (hV : ∀ k, V.ownBlock = some k → k < w2.heap.size)
    (h2 : y.data.toList = nd.name) (h3 : L.map abVal = bareL o nd) (h4 : t.data.toList = []) (h6 : 0 ≤ nd.many ∧ nd.many ≤ 9223372036854775807) (hm : nd.many = (m0 : Int)) :
    NdIn (bareN o nd) ⟨#[]⟩ y t A' c' w5 (OffN base V w5) ∧ nbCells ⟨bareN o nd, ⟨#[]⟩, y, t, A', c'⟩ = [.int .u8 1, .string ⟨#[]⟩, .string y, .slice A' L.length c', .string t, .int .i64 (m0 : Int)] := by
  obtain ⟨r1, r2⟩ := res_in (q := bareN o nd) (s := ⟨#[]⟩) (own_lowS ho (Nat.le_add_right _ 2)) hb hV rfl h2 h3 h4 (show 1 < 256 by decide) h6.1 h6.2
  exact ⟨r1, nb_res rfl r2 hm⟩
theorem last_at {w : World} {base g n c : Nat} {L : List NB} {b : NB} (h : w.ownsRow base 39 6 (.slice (some ⟨g, 0, none⟩) n c) n (L.flatMap nbCells ++ nbCells b)) (k : Nat) (u : Value) (hk : k < 6) (hu : (nbCells b)[k]? = some u) : w.cell? ⟨g, L.length * 6 + k, none⟩ = some u := by
  have hlen := flat_len nbCells 6 (fun _ => rfl) L
  have := h.cells (g := g) rfl (L.length * 6 + k) u (by rw [List.getElem?_append_right (by omega), hlen, Nat.add_sub_cancel_left]; exact hu)
  rw [addr_plain] at this
  simpa using this
theorem bar_elem (B base gv gl gt : Nat) (A : Option Addr) (c : Nat) (v : List Nd) (hl : v.length ≤ 512) (hsm : ∀ n ∈ v, SmallN n) (hob : ∀ n ∈ v, ndOk n = true) (d : Nat) (hIH : BarIH B base gv gl gt A c v d) (o : ByteArray) (L : List NB) (V : Value) (r : List Nd) (w : World) (hT : ∀ W, Below B w W → TbH W) (hp : L.length < v.length) (hr : restD (d + 1) (v.drop L.length) = some r) (h : RwSt (barClo gv gl gt) 55 B base gv gl gt A c v L V w) (hk : (v[L.length]'hp).kind = 1) :
    Calls Tryz.prog 26 #[.string o, .pointer (some ⟨gv, 0, none⟩), .pointer (some ⟨gl, 0, none⟩), .pointer (some ⟨gt, 0, none⟩)] w (WalkTo (barClo gv gl gt) 55 B base gv gl gt A c v L V (walkD bareF bareDn (d + 1) o.data.toList (v.drop L.length)) w) := by
  have hs := hsm _ (List.getElem_mem hp)
  have hok := hob _ (List.getElem_mem hp)
  obtain ⟨i0, hi, hz0, hz1, hz2⟩ := info_parts infoNd
  have HI := Lib.hid hi
  have HZ0 := Lib.hid hz0
  have HZ1 := Lib.hid hz1
  have HZ2 := Lib.hid hz2
  obtain ⟨Va, Vc, rfl⟩ := own_form2 h.own
  obtain ⟨b0, off, x, y, t, A1, c1, hA, hbB, hin, q0, q1, q2, q3, q4, q5⟩ := nd_at h.rd hp
  have hBw : B ≤ w.heap.size := by have := h.ord; have := h.sz; omega
  have hdr := List.drop_eq_getElem_cons hp
  obtain ⟨nd, hnd⟩ : ∃ nd, v[L.length]'hp = nd := ⟨_, rfl⟩
  rw [hnd] at hin q0 q3 q5 hdr hk hs hok
  rw [hdr]
  obtain ⟨n, hn⟩ : ∃ n, v.length = n := ⟨_, rfl⟩
  have HLN := Lib.hid hn
  obtain ⟨n1, hn1⟩ : ∃ n1, nd.attrs.length = n1 := ⟨_, rfl⟩
  have bp : (0 : Int) ≤ (L.length : Int) ∧ (L.length : Int) < (n : Int) := by omega
  have bn : (n : Int) ≤ 512 := by omega
  have HPN : Hid (L.length ≤ 512) := Lib.hid (by omega)
  have kv := cell_of_one h.hv
  have kl := cell_of_one h.hl
  have HST := Lib.hid h
  rw [hn] at kv
  rw [hn1] at q3
  have HIN := Lib.hid hin
  rw [hdr] at hr
  obtain ⟨_, hm0, bb, hkids⟩ := restD_ok hr
  rw [Nat.add_sub_cancel] at hkids
  obtain ⟨hfn, htx, _, hao⟩ := ndOk_one hok hk
  obtain ⟨hfa, hnd2, hla⟩ := atsOk_iff.1 hao
  rw [walkD_elem (by omega)]
  obtain ⟨m0, hm0'⟩ : ∃ m0 : Nat, nd.many = (m0 : Int) := ⟨nd.many.toNat, by omega⟩
  rw [hm0'] at q5
  rw [hm0', Int.toNat_natCast] at hkids
  rw [hm0', Int.toNat_natCast]
  rw [hk, show ((1 : Nat) : Int) = 1 from rfl] at q0
  have bm0 : (m0 : Int) ≤ 512 := by
    have := kidsD_len hkids
    rw [List.length_drop] at this
    omega
  obtain ⟨W0, hW0⟩ : ∃ W0, w.alloc (.cells #[.int .u8 1, .string x, .string y, .slice A1 n1 c1, .string t, .int .i64 (m0 : Int)] 39) = W0 := ⟨_, rfl⟩
  have HB0 : Hid (Below w.heap.size w W0) := Lib.hid (by rw [← hW0]; exact stpA (Below.refl _ _) _)
  have HX0 : Hid (W0.heap[w.heap.size]? = some (.cells #[.int .u8 1, .string x, .string y, .slice A1 n1 c1, .string t, .int .i64 (m0 : Int)] 39 (0, 0))) := Lib.hid (by rw [← hW0]; exact heap_alloc_new w _)
  have HS0 := Lib.hid (h.below HB0.out)
  have k00 := cellV W0 _ 0 _ _ _ HX0.out
  have hndw : NdAt nd x y t A1 c1 w := hin.keep (fun b hb => Nat.lt_of_lt_of_le hb hBw) fun _ _ _ => rfl
  have HTB := Lib.hid hT
  have HBA : Hid (∀ W, Below w.heap.size w W → Calls Tryz.prog 27 #[.agg #[.int .u8 1, .string x, .string y, .slice A1 n1 c1, .string t, .int .i64 (m0 : Int)], .string o] W fun e w' => ∃ (A' : Option Addr) (c' : Nat) (LL : List AB), e = .returned (.agg #[.int .u8 1, .string ⟨#[]⟩, .string y, .slice A' LL.length c', .string t, .int .i64 (m0 : Int)]) ∧ LL.map abVal = bareL o.data.toList nd ∧
      w'.ownsRow (W.heap.size + 2) 41 3 (.slice A' LL.length c') LL.length (LL.flatMap abCells) ∧ Below W.heap.size W w') := Lib.hid fun W hW => by
    have hb := bare11 nd x y t o A1 c1 W (hndw.on hW) hs hk (by omega) (HTB.out W (hW.mono hBw))
    unfold NdV BareTo at hb
    rw [hk, hn1, hm0'] at hb
    exact hb
  have HTX : Hid (t.data.toList = []) := Lib.hid (by rw [hin.text, htx])
  have HYN := Lib.hid hin.name
  have HXN := Lib.hid hin.space
  have HMN : Hid (0 ≤ nd.many ∧ nd.many ≤ 9223372036854775807) := Lib.hid ⟨hm0, hin.hi⟩
  have HM0 := Lib.hid hm0'
  have HBW := Lib.hid hBw
  have HIH := Lib.hid hIH
  have HK := Lib.hid hkids
  obtain ⟨KK, hKK⟩ : ∃ KK, walkK (walkD bareF bareDn d (bareDn o.data.toList nd)) m0 (v.drop (L.length + 1)) = KK := ⟨_, rfl⟩
  rw [hKK]
  have HKK := Lib.hid hKK
  obtain ⟨oq, hoq⟩ : ∃ oq, decide ((bareL o.data.toList nd).length ≤ 16) = oq := ⟨_, rfl⟩
  obtain ⟨WW, hWW⟩ : ∃ WW, ((((bareF o.data.toList nd).1 :: KK.1.1, (bareF o.data.toList nd).2 && KK.1.2), KK.2) : (List Nd × Bool) × List Nd) = WW := ⟨_, rfl⟩
  have HWL : Hid (WW.1.1 = bareN o.data.toList nd :: KK.1.1) := Lib.hid (by rw [← hWW]; rfl)
  have HWQ : Hid (WW.1.2 = (oq && KK.1.2)) := Lib.hid (by rw [← hWW, ← hoq]; rfl)
  rw [hWW]
  have HOQ := Lib.hid hoq
  subst hA
  clear hi hz0 hz1 hz2 h hin hdr hk hok hnd hbB hBw hn1 hn hs hr hm0 hkids hfn htx hao hfa hnd2 hla hm0' hoq hKK hWW hIH hsm hob hl hT hndw
  clear hp
  go_enter Tryz.func26, Tryz.ntmps26
  go_wp2_with (first
    | (refine wpList_store_row rfl _ _ _ rfl w.heap.size #[.int .u8 1, .string x, .string y, .slice A1 n1 c1, .string t, .int .i64 (m0 : Int)] rfl rfl 39 #[.int .u8 0, .string ⟨#[]⟩, .string ⟨#[]⟩, .slice none 0 0, .string ⟨#[]⟩, .int .i64 0] (heap_alloc_new _ _) sizeNd rfl (by simp [Value.oneCell']) ?_; rw [World.setRow_alloc_new, hW0])
    | fail)
  clear k00 q0 q1 q2 q3 q4 q5 kv kl
  refine wp_region_noPanic ?_
  refine wp_region_Z (fun W => W.cell? ⟨gl, 0, none⟩ = some (.slice Va L.length Vc) ∧ W.cell? ⟨w.heap.size, 0, none⟩ = some (.int .u8 1) ∧ W.cell? ⟨w.heap.size, 1, none⟩ = some (.string x) ∧ W.cell? ⟨w.heap.size, 2, none⟩ = some (.string y) ∧ W.cell? ⟨w.heap.size, 3, none⟩ = some (.slice A1 n1 c1) ∧ W.cell? ⟨w.heap.size, 4, none⟩ = some (.string t) ∧ W.cell? ⟨w.heap.size, 5, none⟩ = some (.int .i64 (m0 : Int))) 6 (by kernel_rfl) ?_
  have hS : W0.drew.cell? ⟨gl, 0, none⟩ = some (.slice Va L.length Vc) ∧ W0.drew.cell? ⟨w.heap.size, 0, none⟩ = some (.int .u8 1) ∧ W0.drew.cell? ⟨w.heap.size, 1, none⟩ = some (.string x) ∧ W0.drew.cell? ⟨w.heap.size, 2, none⟩ = some (.string y) ∧ W0.drew.cell? ⟨w.heap.size, 3, none⟩ = some (.slice A1 n1 c1) ∧ W0.drew.cell? ⟨w.heap.size, 4, none⟩ = some (.string t) ∧ W0.drew.cell? ⟨w.heap.size, 5, none⟩ = some (.int .i64 (m0 : Int)) := ⟨cellV W0 _ 0 _ _ _ HS0.out.hl, cellV W0 _ 0 _ _ _ HX0.out, cellV W0 _ 1 _ _ _ HX0.out, cellV W0 _ 2 _ _ _ HX0.out, cellV W0 _ 3 _ _ _ HX0.out, cellV W0 _ 4 _ _ _ HX0.out, cellV W0 _ 5 _ _ _ HX0.out⟩
  refine takeZ (i := 0) (v := .slice Va L.length Vc) rfl (by kernel_rfl) (by kernel_rfl) (by kernel_rfl) (by kernel_rfl) (fun _ _ _ h => h) (Or.inl ⟨by rfl, ?_⟩) hS ?_
  · intro w' hSw; (try dsimp only at hSw); go_simp
  try simp only [Act.put, List.setIfInBounds_toArray, List.set_cons_zero, List.set_cons_succ]
  refine takeZ (i := 1) (v := .agg #[.int .u8 1, .string x, .string y, .slice A1 n1 c1, .string t, .int .i64 (m0 : Int)]) rfl (by kernel_rfl) (by kernel_rfl) (by kernel_rfl) (by kernel_rfl) (fun _ _ _ h => h) (Or.inl ⟨by rfl, ?_⟩) hS ?_
  · intro w' hSw; (try dsimp only at hSw); go_simp
  try simp only [Act.put, List.setIfInBounds_toArray, List.set_cons_zero, List.set_cons_succ]
  refine takeZ (i := 2) (v := .string o) rfl (by kernel_rfl) (by kernel_rfl) (by kernel_rfl) (by kernel_rfl) (fun _ _ _ h => h) (Or.inl ⟨by rfl, ?_⟩) hS ?_
  · intro w' hSw; (try dsimp only at hSw); go_simp
  try simp only [Act.put, List.setIfInBounds_toArray, List.set_cons_zero, List.set_cons_succ]
  refine stepZ (i := 3) (by kernel_rfl) rfl (fun K hK => ?_)
  go_simp
  go_at_call 27; (with_reducible refine (HBA.out W0.drew HB0.out.drew).mono ?_); rintro e5 w5 ⟨A5, c5, LL, rfl, hLL, ho5, hb5⟩; have HB5 : Hid (Below W0.drew.heap.size W0.drew w5) := Lib.hid hb5; have HLL := Lib.hid hLL; have HO5 := Lib.hid ho5; clear hb5 hLL ho5
  have HS5 : Hid (RwSt (barClo gv gl gt) 55 B base gv gl gt (some ⟨b0, off, none⟩) c v L (.slice Va L.length Vc) w5) := Lib.hid (HS0.out.below (stp (Below.refl _ _).drew HB5.out))
  have HX5 : Hid (w5.heap[w.heap.size]? = some (.cells #[.int .u8 1, .string x, .string y, .slice A1 n1 c1, .string t, .int .i64 (m0 : Int)] 39 (0, 0))) := Lib.hid (kept_heap HX0.out (stp (Below.refl _ _).drew HB5.out))
  have hS5 : w5.cell? ⟨gl, 0, none⟩ = some (.slice Va L.length Vc) ∧ w5.cell? ⟨w.heap.size, 0, none⟩ = some (.int .u8 1) ∧ w5.cell? ⟨w.heap.size, 1, none⟩ = some (.string x) ∧ w5.cell? ⟨w.heap.size, 2, none⟩ = some (.string y) ∧ w5.cell? ⟨w.heap.size, 3, none⟩ = some (.slice A1 n1 c1) ∧ w5.cell? ⟨w.heap.size, 4, none⟩ = some (.string t) ∧ w5.cell? ⟨w.heap.size, 5, none⟩ = some (.int .i64 (m0 : Int)) := ⟨cellV w5 _ 0 _ _ _ HS5.out.hl, cellV w5 _ 0 _ _ _ HX5.out, cellV w5 _ 1 _ _ _ HX5.out, cellV w5 _ 2 _ _ _ HX5.out, cellV w5 _ 3 _ _ _ HX5.out, cellV w5 _ 4 _ _ _ HX5.out, cellV w5 _ 5 _ _ _ HX5.out⟩
  have HBG := Lib.hid (bar_got (base := base) (V := .slice Va L.length Vc) (w2 := W0) (o := o.data.toList) (nd := nd) HO5.out HS0.out.sz (fun k hk => (HS0.out.own.lt k hk).2) HYN.out HLL.out HTX.out HMN.out HM0.out)
  have HCE := Lib.hid HBG.out.2
  go_wp2_with fail
  refine hK.out _ _ (fun _ => hS5) (fun _ => ?_)
  clear hK K hS
  try simp only [Act.put, List.setIfInBounds_toArray, List.set_cons_zero, List.set_cons_succ]
  refine stepZ (i := 4) (by kernel_rfl) rfl (fun K hK => ?_)
  go_simp
  have HS6 := Lib.hid (HS5.out.below (stpA (Below.refl w5.heap.size w5) (.cells #[.int .u8 1, .string ⟨#[]⟩, .string y, .slice A5 LL.length c5, .string t, .int .i64 (m0 : Int)] 39)))
  have HX6 := Lib.hid (kept_heap HX5.out (stpA (Below.refl w5.heap.size w5) (.cells #[.int .u8 1, .string ⟨#[]⟩, .string y, .slice A5 LL.length c5, .string t, .int .i64 (m0 : Int)] 39)))
  have hS6 : (w5.alloc (.cells #[.int .u8 1, .string ⟨#[]⟩, .string y, .slice A5 LL.length c5, .string t, .int .i64 (m0 : Int)] 39)).cell? ⟨gl, 0, none⟩ = some (.slice Va L.length Vc) ∧ (w5.alloc (.cells #[.int .u8 1, .string ⟨#[]⟩, .string y, .slice A5 LL.length c5, .string t, .int .i64 (m0 : Int)] 39)).cell? ⟨w.heap.size, 0, none⟩ = some (.int .u8 1) ∧ (w5.alloc (.cells #[.int .u8 1, .string ⟨#[]⟩, .string y, .slice A5 LL.length c5, .string t, .int .i64 (m0 : Int)] 39)).cell? ⟨w.heap.size, 1, none⟩ = some (.string x) ∧ (w5.alloc (.cells #[.int .u8 1, .string ⟨#[]⟩, .string y, .slice A5 LL.length c5, .string t, .int .i64 (m0 : Int)] 39)).cell? ⟨w.heap.size, 2, none⟩ = some (.string y) ∧ (w5.alloc (.cells #[.int .u8 1, .string ⟨#[]⟩, .string y, .slice A5 LL.length c5, .string t, .int .i64 (m0 : Int)] 39)).cell? ⟨w.heap.size, 3, none⟩ = some (.slice A1 n1 c1) ∧ (w5.alloc (.cells #[.int .u8 1, .string ⟨#[]⟩, .string y, .slice A5 LL.length c5, .string t, .int .i64 (m0 : Int)] 39)).cell? ⟨w.heap.size, 4, none⟩ = some (.string t) ∧ (w5.alloc (.cells #[.int .u8 1, .string ⟨#[]⟩, .string y, .slice A5 LL.length c5, .string t, .int .i64 (m0 : Int)] 39)).cell? ⟨w.heap.size, 5, none⟩ = some (.int .i64 (m0 : Int)) := ⟨cellV (w5.alloc (.cells #[.int .u8 1, .string ⟨#[]⟩, .string y, .slice A5 LL.length c5, .string t, .int .i64 (m0 : Int)] 39)) _ 0 _ _ _ HS6.out.hl, cellV (w5.alloc (.cells #[.int .u8 1, .string ⟨#[]⟩, .string y, .slice A5 LL.length c5, .string t, .int .i64 (m0 : Int)] 39)) _ 0 _ _ _ HX6.out, cellV (w5.alloc (.cells #[.int .u8 1, .string ⟨#[]⟩, .string y, .slice A5 LL.length c5, .string t, .int .i64 (m0 : Int)] 39)) _ 1 _ _ _ HX6.out, cellV (w5.alloc (.cells #[.int .u8 1, .string ⟨#[]⟩, .string y, .slice A5 LL.length c5, .string t, .int .i64 (m0 : Int)] 39)) _ 2 _ _ _ HX6.out, cellV (w5.alloc (.cells #[.int .u8 1, .string ⟨#[]⟩, .string y, .slice A5 LL.length c5, .string t, .int .i64 (m0 : Int)] 39)) _ 3 _ _ _ HX6.out, cellV (w5.alloc (.cells #[.int .u8 1, .string ⟨#[]⟩, .string y, .slice A5 LL.length c5, .string t, .int .i64 (m0 : Int)] 39)) _ 4 _ _ _ HX6.out, cellV (w5.alloc (.cells #[.int .u8 1, .string ⟨#[]⟩, .string y, .slice A5 LL.length c5, .string t, .int .i64 (m0 : Int)] 39)) _ 5 _ _ _ HX6.out⟩
  refine hK.out _ _ (fun _ => hS6) (fun _ => ?_)
  clear hK K hS5
  try simp only [Act.put, List.setIfInBounds_toArray, List.set_cons_zero, List.set_cons_succ]
  refine stepZ (i := 5) (by kernel_rfl) rfl (fun K hK => ?_)
  have HSZ : Hid (base ≤ w5.heap.size) := Lib.hid HS5.out.sz
  refine step_append_lies _ rfl (.tmp 19) (.tmp 23) 22 rfl base 39 i0 (.agg #[.int .u8 0, .string ⟨#[]⟩, .string ⟨#[]⟩, .slice none 0 0, .string ⟨#[]⟩, .int .i64 0]) 6 88 Tryz.underlying22 HI.out HZ0.out HZ1.out HZ2.out rfl (by decide) _ L.length _ rfl (own_belowK HS5.out.own (stpA (Below.refl _ _) _) (Nat.le_refl _)) ⟨w5.heap.size, 0, none⟩ 1 1 [.int .u8 1, .string ⟨#[]⟩, .string y, .slice A5 LL.length c5, .string t, .int .i64 (m0 : Int)] rfl rfl (new_at w5 [.int .u8 1, .string ⟨#[]⟩, .string y, .slice A5 LL.length c5, .string t, .int .i64 (m0 : Int)] 39 _ rfl) (by simp [Value.oneCell']) (by decide) (by have := HPN.out; unfold maxLen; omega) (by have := HPN.out; omega) (by have := HSZ.out; rw [World.size_alloc]; omega) (w5.heap.size + 1) (by rw [World.size_alloc]) ?_
  intro g8 c8 w8 hown8 hgr8 hor hlt8
  rw [← HCE.out] at hown8
  have hlast := last_at hown8 3 (.slice A5 LL.length c5) (by decide) (by rw [HCE.out]; rfl)
  have hpush := HS5.out.push (b := (NB.mk (bareN o.data.toList nd) ⟨#[]⟩ y t A5 c5)) HBG.out.1 hown8 hgr8 hor
  have HP8 := Lib.hid hpush.1
  have HF8 := Lib.hid hpush.2
  have st8 : ∀ (q : Nat) (ob : Obj), w5.heap[q]? = some ob → some q ≠ (Value.slice Va L.length Vc).ownBlock → w8.heap[q]? = some ob := fun q ob ho hne => by
    have h1 := kept_heap ho (stpA (Below.refl w5.heap.size w5) (.cells #[.int .u8 1, .string ⟨#[]⟩, .string y, .slice A5 LL.length c5, .string t, .int .i64 (m0 : Int)] 39))
    exact (hgr8.block _ (Array.getElem?_eq_some_iff.1 h1).1 hne).trans h1
  have hgl := st8 gl _ HS5.out.hl (fun e => by have := (HS5.out.own.lt _ e.symm).1; have := HS5.out.ord; omega)
  have hbx := st8 w.heap.size _ HX5.out (fun e => by have := (HST.out.own.lt _ e.symm).2; omega)
  have k8 : w8.cell? ⟨gl, 0, none⟩ = some (.slice Va L.length Vc) ∧ w8.cell? ⟨w.heap.size, 0, none⟩ = some (.int .u8 1) ∧ w8.cell? ⟨w.heap.size, 1, none⟩ = some (.string x) ∧ w8.cell? ⟨w.heap.size, 2, none⟩ = some (.string y) ∧ w8.cell? ⟨w.heap.size, 3, none⟩ = some (.slice A1 n1 c1) ∧ w8.cell? ⟨w.heap.size, 4, none⟩ = some (.string t) ∧ w8.cell? ⟨w.heap.size, 5, none⟩ = some (.int .i64 (m0 : Int)) := ⟨cellV w8 _ 0 _ _ _ hgl, cellV w8 _ 0 _ _ _ hbx, cellV w8 _ 1 _ _ _ hbx, cellV w8 _ 2 _ _ _ hbx, cellV w8 _ 3 _ _ _ hbx, cellV w8 _ 4 _ _ _ hbx, cellV w8 _ 5 _ _ _ hbx⟩
  have f8 : w8.frozen? ⟨gl, 0, none⟩ = false := freeV w8 _ 0 _ _ hgl
  have k81 := k8.1
  have hglW : gl < base := by have := HST.out.ord; omega
  have HG8 : Hid (base ≤ g8 ∧ g8 ≠ w.heap.size) := Lib.hid ⟨(hown8.lt g8 rfl).1, fun e => by
    rcases hor with h | h
    · have := (HST.out.own.lt _ h).2; omega
    · have h1 : W0.heap.size ≤ w5.heap.size := HB5.out.size
      have h2 : w.heap.size + 1 = W0.heap.size := by rw [← hW0, World.size_alloc]
      omega⟩
  have HX8 : Hid ((w8.setCell ⟨gl, 0, none⟩ (.slice (some ⟨g8, 0, none⟩) (L.length + 1) c8)).heap[w.heap.size]? = some (.cells #[.int .u8 1, .string x, .string y, .slice A1 n1 c1, .string t, .int .i64 (m0 : Int)] 39 (0, 0))) := Lib.hid ((set_other w8 gl 0 w.heap.size _ (by have := HST.out.sz; omega)).trans hbx)
  have HLA : Hid ((w8.setCell ⟨gl, 0, none⟩ (.slice (some ⟨g8, 0, none⟩) (L.length + 1) c8)).cell? ⟨g8, L.length * 6 + 3, none⟩ = some (.slice A5 LL.length c5)) := Lib.hid ((cell_blk (set_other w8 gl 0 g8 _ (by have := (hown8.lt g8 rfl).1; omega))).trans hlast)
  clear hown8 hgr8 hor hgl st8 hpush hlast
  refine hK.out _ _ (fun _ => k8) (fun _ => ?_)
  clear hK K
  try simp only [Act.put, List.setIfInBounds_toArray, List.set_cons_zero, List.set_cons_succ]
  refine stepZ (i := 6) (by kernel_rfl) rfl (fun K hK => ?_)
  go_simp
  refine hK.out _ _ (fun h => absurd rfl h) (fun _ => ?_)
  clear hK K
  try simp only [Act.put, List.setIfInBounds_toArray, List.set_cons_zero, List.set_cons_succ]
  refine doneZ (by kernel_rfl) ?_ _
  refine NoPanic.normal ?_
  have HFW : Hid (FrR B gl (.slice Va L.length Vc) w (.slice (some ⟨g8, 0, none⟩) (L.length + 1) c8) (w8.setCell ⟨gl, 0, none⟩ (.slice (some ⟨g8, 0, none⟩) (L.length + 1) c8))) := Lib.hid ((FrR.of_below (HB0.out.trans ((stp (Below.refl _ _).drew HB5.out).mono HB0.out.size)) HBW.out).trans HF8.out)
  obtain ⟨WN, hWN⟩ : ∃ WN, (w8.setCell ⟨gl, 0, none⟩ (.slice (some ⟨g8, 0, none⟩) (L.length + 1) c8)) = WN := ⟨_, rfl⟩
  rw [hWN] at HP8 HF8 HX8 HLA HFW
  rw [hWN]
  have kl8 := cell_of_one HP8.out.hl
  have kla := HLA.out
  have kb5 := cellV WN _ 5 _ _ _ HX8.out
  have bL : (L.length : Int) ≤ 512 := by have := HPN.out; omega
  have hls : (((L ++ [(NB.mk (bareN o.data.toList nd) ⟨#[]⟩ y t A5 c5)]).length : Nat) : Int) = (L.length : Int) + 1 := by rw [List.length_append]; rfl
  have HLEN : Hid (LL.length = (bareL o.data.toList nd).length) := Lib.hid (by rw [← HLL.out, List.length_map])
  have HBS : Hid (w.heap.size < WN.heap.size) := Lib.hid (lt_heap HX8.out)
  clear k8 f8 k81 hbx hWN hS6
  cases oq with
  | false =>
    have h16 : (16 : Int) < (LL.length : Int) := by have := of_decide_eq_false HOQ.out; have := HLEN.out; omega
    go_wp2_with fail
    go_ret
    exact ⟨[(NB.mk (bareN o.data.toList nd) ⟨#[]⟩ y t A5 c5)], _, by rw [HWQ.out] <;> rfl, HFW.out, HP8.out, fun hh => by rw [HWQ.out] at hh; cases hh⟩
  | true =>
    have h16 : ¬ (16 : Int) < (LL.length : Int) := by have := of_decide_eq_true HOQ.out; have := HLEN.out; omega
    go_wp2_with fail
    go_loopg [36] m0 (fun gg i wr => ∃ (j : Nat) (b' : Bool) (M : List NB) (V' : Value), j + gg = m0 ∧ i = .int .i64 j ∧ kidsD (restD d) j false (v.drop (L.length + 1)) = some (b', v.drop (L ++ [(NB.mk (bareN o.data.toList nd) ⟨#[]⟩ y t A5 c5)] ++ M).length) ∧ RwSt (barClo gv gl gt) 55 B base gv gl gt (some ⟨b0, off, none⟩) c v (L ++ [(NB.mk (bareN o.data.toList nd) ⟨#[]⟩ y t A5 c5)] ++ M) V' wr ∧ M.map NB.n = (walkK (walkD bareF bareDn d (bareDn o.data.toList nd)) j (v.drop (L.length + 1))).1.1 ∧ (walkK (walkD bareF bareDn d (bareDn o.data.toList nd)) j (v.drop (L.length + 1))).1.2 = true ∧ FrR B gl (.slice (some ⟨g8, 0, none⟩) (L.length + 1) c8) WN V' wr)
    case atStart => exact ⟨0, false, [], _, by omega, rfl, by rw [kidsD, List.append_nil, List.length_append]; rfl, by rw [List.append_nil]; exact HP8.out, by simp [walkK], by simp [walkK], FrR.refl _ _ _ _⟩
    case round =>
      obtain ⟨j, b', M, V', hjg, rfl, hkd, hst, hM, hq, hfr⟩ := hrel
      obtain ⟨L2, hL2⟩ : ∃ L2, L ++ [(NB.mk (bareN o.data.toList nd) ⟨#[]⟩ y t A5 c5)] ++ M = L2 := ⟨_, rfl⟩
      rw [hL2] at hkd hst
      have HL2 := Lib.hid hL2
      have HSTj := Lib.hid hst
      have HFR := Lib.hid hfr
      have HMj := Lib.hid hM
      have HQj := Lib.hid hq
      have hrest := (walkK_rest (f := bareF) (dn := bareDn) (fun l r e h => walkD_rest d l r e h) (bareDn o.data.toList nd) j false _ b' _ hkd).1
      by_cases hlt : j < m0
      · have hlt2 : (j : Int) < (m0 : Int) := by omega
        obtain ⟨hp2, r2, h1, h2, h3⟩ := kids_more HK.out hkd hlt
        have hcall := HIH.out x L2 V' r2 wr (fun W hW => HTB.out W (HFW.out.bel.trans (hfr.bel.trans hW))) hp2 h1 hst
        have hxs : x.data.toList = bareDn o.data.toList nd := HXN.out
        rw [hxs] at hcall
        have hlen2 := (walkD_rest (f := bareF) (dn := bareDn) d _ _ (bareDn o.data.toList nd) h1).2
        have hsn := walkK_snoc (g := walkD bareF bareDn d (bareDn o.data.toList nd)) j (v.drop (L.length + 1))
        rw [hrest] at hsn
        obtain ⟨WI, hWI⟩ : ∃ WI, walkD bareF bareDn d (bareDn o.data.toList nd) (v.drop L2.length) = WI := ⟨_, rfl⟩
        rw [hWI] at hcall hlen2 hsn
        obtain ⟨qi, hqi⟩ : ∃ qi, WI.1.2 = qi := ⟨_, rfl⟩
        have HSN : Hid ((walkK (walkD bareF bareDn d (bareDn o.data.toList nd)) (j + 1) (v.drop (L.length + 1))).1.1 = M.map NB.n ++ WI.1.1 ∧ (walkK (walkD bareF bareDn d (bareDn o.data.toList nd)) (j + 1) (v.drop (L.length + 1))).1.2 = qi) := Lib.hid (by
          rw [hsn, hM, ← hqi]
          refine ⟨rfl, ?_⟩
          show (_ && _) = _
          rw [hq, Bool.true_and])
        have HC : Hid (Calls Tryz.prog 26 #[.string x, .pointer (some ⟨gv, 0, none⟩), .pointer (some ⟨gl, 0, none⟩), .pointer (some ⟨gt, 0, none⟩)] wr fun e w' => ∃ (M2 : List NB) (V2 : Value), e = .returned (.bool qi) ∧ FrR B gl V' wr V2 w' ∧ RwSt (barClo gv gl gt) 55 B base gv gl gt (some ⟨b0, off, none⟩) c v (L2 ++ M2) V2 w' ∧ (WI.1.2 = true → M2.map NB.n = WI.1.1)) := Lib.hid (by
          unfold WalkTo at hcall
          refine hcall.mono fun e w' hh => ?_
          obtain ⟨M2, V2, e1, e2, e3, e4⟩ := hh
          exact ⟨M2, V2, by rw [e1, hqi], e2, e3, e4⟩)
        have HQI := Lib.hid hqi
        have HXR : Hid (wr.heap[w.heap.size]? = some (.cells #[.int .u8 1, .string x, .string y, .slice A1 n1 c1, .string t, .int .i64 (m0 : Int)] 39 (0, 0))) := Lib.hid ((hfr.blk w.heap.size HBS.out (by have := HST.out.sz; omega) (fun e => HG8.out.2 (by simpa [Value.ownBlock] using e.symm))).trans HX8.out)
        have kx1 := cellV wr _ 1 _ _ _ HXR.out
        have kt := cell_of_one hst.ht
        unfold barClo at kt
        have H2 : Hid (∃ b2, kidsD (restD d) (j + 1) false (v.drop (L.length + 1)) = some (b2, v.drop (v.length - r2.length))) := Lib.hid ⟨_, h2⟩
        have HLE := Lib.hid hlen2
        have HLT := Lib.hid hlt
        have HP2 := Lib.hid hp2
        clear hcall hkd h1 h2 h3 hst hfr hM hq hrest hsn hqi hWI hlen2 hL2 hp2 hlt hxs kl8 kla kb5
        cases qi with
        | false =>
          have HNO : Hid (KK.1.2 = false) := Lib.hid (by rw [← HKK.out]; exact walkK_no HSN.out.2 (by have := HLT.out; omega))
          go_wp2_with (first
            | (go_at_call 26; (with_reducible refine (HC.out).mono ?_); rintro e6 w6 ⟨M2, V2, rfl, hf6, hs6, hm6⟩; have HF6 := Lib.hid hf6; have HS6 := Lib.hid hs6; clear hf6 hs6 hm6)
            | fail)
          go_ret
          exact ⟨[(NB.mk (bareN o.data.toList nd) ⟨#[]⟩ y t A5 c5)] ++ M ++ M2, V2, by rw [HWQ.out, HNO.out, Bool.and_false]; rfl, HFW.out.trans (HFR.out.trans HF6.out), by rw [← List.append_assoc, ← List.append_assoc, HL2.out]; exact HS6.out, fun hh => by rw [HWQ.out, HNO.out, Bool.and_false] at hh; cases hh⟩
        | true =>
          go_wp2_with (first
            | (go_at_call 26; (with_reducible refine (HC.out).mono ?_); rintro e6 w6 ⟨M2, V2, rfl, hf6, hs6, hm6⟩; have HF6 := Lib.hid hf6; have HS6 := Lib.hid hs6; have HM6 := Lib.hid (hm6 HQI.out); clear hf6 hs6 hm6)
            | fail)
          go_roundg (gk - 1)
          case measure => have := HLT.out; omega
          case rel =>
            obtain ⟨b2, hk2⟩ := H2.out
            refine ⟨j + 1, b2, M ++ M2, V2, by have := HLT.out; omega, by go_num, ?_, by rw [← List.append_assoc, HL2.out]; exact HS6.out, by rw [List.map_append, HM6.out, HSN.out.1], HSN.out.2, HFR.out.trans HF6.out⟩
            rw [hk2, ← List.append_assoc, HL2.out, List.length_append]
            have h9 := congrArg List.length HM6.out
            rw [List.length_map] at h9
            have h8 := HLE.out
            rw [List.length_drop] at h8
            have := HP2.out
            rw [show v.length - r2.length = L2.length + M2.length by omega]
      · obtain rfl : j = m0 := by omega
        have hjj : ¬ ((j : Int) < (j : Int)) := by omega
        have HKQ : Hid (KK.1.2 = true ∧ M.map NB.n = KK.1.1) := Lib.hid (by rw [← HKK.out]; exact ⟨hq, hM⟩)
        clear hkd hst hfr hM hq hrest hL2 kl8 kla kb5
        go_wp2_with fail
        go_ret
        exact ⟨[(NB.mk (bareN o.data.toList nd) ⟨#[]⟩ y t A5 c5)] ++ M, V', by rw [HWQ.out, HKQ.out.1]; rfl, HFW.out.trans HFR.out, by rw [← List.append_assoc, HL2.out]; exact HSTj.out, fun _ => by rw [List.map_append, HKQ.out.2, HWL.out]; rfl⟩
theorem bar_all (B base gv gl gt : Nat) (A : Option Addr) (c : Nat) (v : List Nd) (hl : v.length ≤ 512) (hsm : ∀ n ∈ v, SmallN n) (hob : ∀ n ∈ v, ndOk n = true) : ∀ d, BarIH B base gv gl gt A c v d := by
  intro d
  induction d with
  | zero =>
    intro o L V r w hT hp hr h
    have hk : (v[L.length]'hp).kind = 2 := by
      have h' := hr
      rw [List.drop_eq_getElem_cons hp, restD] at h'
      by_cases hn : ndOk (v[L.length]'hp) = true ∧ (v[L.length]'hp).kind = 2
      · exact hn.2
      · rw [if_neg hn] at h'; cases h'
    exact bar_text B base gv gl gt A c v hl o 0 L V w hp h hk (hob _ (List.getElem_mem hp))
  | succ d ih =>
    intro o L V r w hT hp hr h
    have hok := hob _ (List.getElem_mem hp)
    rcases ndOk_kind hok with hk | hk
    · exact bar_elem B base gv gl gt A c v hl hsm hob d ih o L V r w hT hp hr h hk
    · exact bar_text B base gv gl gt A c v hl o (d + 1) L V w hp h hk hok
end Hx
end Go.Proofs.YteobcohjikjalaaGreatDoor
