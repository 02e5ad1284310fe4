/-
  Texts of one seat, put together: SpaQ.
-/
import Derived.Test.YteobcohjikjalaaGreatDoorSp37
import Derived.Test.YteobcohjikjalaaGreatDoorSp38
set_option linter.unusedSimpArgs false
namespace Go.Proofs.YteobcohjikjalaaGreatDoor
open Go.RowKit
namespace Hx
open Lx Tr Tx Nmb Es Ns
set_option maxRecDepth 100000
set_option maxHeartbeats 16000000
set_option linter.unusedVariables false
def resClo (gv gl gt : Nat) : Value := .func (.func 17) #[] #[.pointer (some ⟨gv, 0, none⟩), .pointer (some ⟨gl, 0, none⟩), .pointer (some ⟨gt, 0, none⟩)]
def WalkTo (clo : Value) (tc : TypeId) (B base gv gl gt : Nat) (A : Option Addr) (c : Nat) (v : List Nd) (L : List NB) (V : Value) (W : (List Nd × Bool) × List Nd) (w : World) (e : Ending) (w' : World) : Prop :=
  ∃ (M : List NB) (V' : Value), e = .returned (.bool W.1.2) ∧ FrR B gl V w V' w' ∧ RwSt clo tc B base gv gl gt A c v (L ++ M) V' w' ∧ (W.1.2 = true → M.map NB.n = W.1.1)
theorem NdIn.plain {n : Nd} {x y z : ByteArray} {A : Option Addr} {c : Nat} {w w' : World} {S S' : Nat → Prop} (h : NdIn n x y z A c w S) (ha : n.attrs = []) : NdIn n x y z A c w' S' :=
  ⟨h.space, h.name, h.text, by rw [ha]; exact RdS.nil _ _ _, h.le, h.cm, h.nil, h.kd, h.lo, h.hi⟩
theorem own_form3 {w : World} {base : Nat} {e : TypeId} {size : Nat} {v : Value} {n : Nat} {xs : List Value} (h : w.ownsRow base e size v (n + 1) xs) : ∃ g c, v = .slice (some ⟨g, 0, none⟩) (n + 1) c := by
  rcases h.2 with ⟨_, h0⟩ | ⟨g, cap, cur, rfl, _⟩
  · omega
  · exact ⟨g, cap, rfl⟩
theorem at_row {g4 n c4 : Nat} {V : Value} {s : Nat} (h : (Value.slice (some ⟨g4, 0, none⟩) n c4).ownBlock = V.ownBlock ∨ (Value.slice (some ⟨g4, 0, none⟩) n c4).ownBlock = some s) : V.ownBlock = some g4 ∨ g4 = s := by
  rcases h with h | h
  · exact .inl h.symm
  · exact .inr (Option.some.inj h)
theorem decls_no {E : List (List At)} : ∀ (l acc : List At), declsOk l = false → (atsE E acc l).2 = false
  | [], acc, h => by cases h
  | a :: l, acc, h => by
    unfold declsOk at h
    rw [List.all_cons] at h
    rw [atsE]
    cases hd : decl a.name with
    | some p =>
      rw [hd] at h
      dsimp only at h ⊢
      cases hr : rightD p a.value with
      | false => rfl
      | true =>
        rw [hr, Bool.true_and] at h
        rw [decls_no l acc h]
        rfl
    | none =>
      rw [hd] at h
      dsimp only at h ⊢
      rw [Bool.true_and] at h
      rw [decls_no l _ h, Bool.and_false]
theorem res_text (B base gv gl gt : Nat) (A : Option Addr) (c : Nat) (v : List Nd) (hl : v.length ≤ 512) (m d : Nat) (E : List (List At)) (L : List NB) (V : Value) (w : World) (hp : L.length < v.length) (h : RwSt (resClo gv gl gt) 44 B base gv gl gt A c v L V w) (hk : (v[L.length]'hp).kind = 2) (hok : ndOk (v[L.length]'hp) = true) :
    Calls Tryz.prog 17 #[.map (some m), .pointer (some ⟨gv, 0, none⟩), .pointer (some ⟨gl, 0, none⟩), .pointer (some ⟨gt, 0, none⟩)] w (WalkTo (resClo gv gl gt) 44 B base gv gl gt A c v L V (walkD resF resDn d E (v.drop L.length)) w) := by
  obtain ⟨i0, hi, hz0, hz1, hz2⟩ := info_parts infoNd
  have HI := Lib.hid hi
  have HZ0 := Lib.hid hz0
  have HZ1 := Lib.hid hz1
  have HZ2 := Lib.hid hz2
  obtain ⟨Va, Vc, rfl⟩ := own_form2 h.own
  obtain ⟨b0, off, x, y, t, A1, c1, hA, hbB, hin, q0, q1, q2, q3, q4, q5⟩ := nd_at h.rd hp
  have hBw : B ≤ w.heap.size := by have := h.ord; have := h.sz; omega
  have hdr := List.drop_eq_getElem_cons hp
  obtain ⟨nd, hnd⟩ : ∃ nd, v[L.length]'hp = nd := ⟨_, rfl⟩
  rw [hnd] at hin q0 q3 q5 hdr hk hok
  rw [hdr]
  obtain ⟨n, hn⟩ : ∃ n, v.length = n := ⟨_, rfl⟩
  have HLN := Lib.hid hn
  obtain ⟨n1, hn1⟩ : ∃ n1, nd.attrs.length = n1 := ⟨_, rfl⟩
  have bp : (0 : Int) ≤ (L.length : Int) ∧ (L.length : Int) < (n : Int) := by omega
  have bn : (n : Int) ≤ 512 := by omega
  have HPN : Hid (L.length ≤ 512) := Lib.hid (by omega)
  have kv := cell_of_one h.hv
  have kl := cell_of_one h.hl
  have HST := Lib.hid h
  rw [hn] at kv
  rw [hn1] at q3
  have HIN := Lib.hid hin
  rw [walkD_text hk]
  obtain ⟨mm, hmm⟩ : ∃ mm, nd.many = mm := ⟨_, rfl⟩
  rw [hmm] at q5
  have HCE : Hid (nbCells ⟨nd, x, y, t, A1, c1⟩ = [.int .u8 2, .string x, .string y, .slice A1 n1 c1, .string t, .int .i64 mm]) := Lib.hid (by unfold nbCells ndCells; rw [hk, hn1, hmm]; rfl)
  have HAT := Lib.hid (ndOk_two hok hk).2.2.2.1
  rw [hk, show ((2 : Nat) : Int) = 2 from rfl] at q0
  obtain ⟨W0, hW0⟩ : ∃ W0, w.alloc (.cells #[.int .u8 2, .string x, .string y, .slice A1 n1 c1, .string t, .int .i64 mm] 39) = W0 := ⟨_, rfl⟩
  have HB0 : Hid (Below w.heap.size w W0) := Lib.hid (by rw [← hW0]; exact stpA (Below.refl _ _) _)
  have HX0 : Hid (W0.heap[w.heap.size]? = some (.cells #[.int .u8 2, .string x, .string y, .slice A1 n1 c1, .string t, .int .i64 mm] 39 (0, 0))) := Lib.hid (by rw [← hW0]; exact heap_alloc_new w _)
  have HS0 := Lib.hid (h.below HB0.out)
  have k00 := cellV W0 _ 0 _ _ _ HX0.out
  have kl0 := cell_of_one HS0.out.hl
  have hBw2 := Lib.hid hBw
  subst hA
  clear hi hz0 hz1 hz2 h hin hdr hk hok hnd hbB hBw hn1 hmm hn hl hp
  go_enter Tryz.func17, Tryz.ntmps17
  go_wp2_with (first
    | (refine wpList_store_row rfl _ _ _ rfl w.heap.size #[.int .u8 2, .string x, .string y, .slice A1 n1 c1, .string t, .int .i64 mm] rfl rfl 39 #[.int .u8 0, .string ⟨#[]⟩, .string ⟨#[]⟩, .slice none 0 0, .string ⟨#[]⟩, .int .i64 0] (heap_alloc_new _ _) sizeNd rfl (by simp [Value.oneCell']) ?_; rw [World.setRow_alloc_new, hW0])
    | (refine wpList_load_row rfl _ _ rfl w.heap.size rfl 39 #[.int .u8 2, .string x, .string y, .slice A1 n1 c1, .string t, .int .i64 mm] (0, 0) _ HX0.out Tryz.underlying39 rfl sizeNd ?_)
    | (at_builtin; refine wpList_append_own_at _ rfl (.tmp 16) (.tmp 18) 22 rfl base 39 i0 (.agg #[.int .u8 0, .string ⟨#[]⟩, .string ⟨#[]⟩, .slice none 0 0, .string ⟨#[]⟩, .int .i64 0]) 6 88 Tryz.underlying22 HI.out HZ0.out HZ1.out HZ2.out rfl (by decide) _ L.length _ rfl (own_belowK HS0.out.own (stpA (Below.refl _ _) _) (Nat.le_refl _)) ⟨W0.heap.size, 0, none⟩ 1 1 [.int .u8 2, .string x, .string y, .slice A1 n1 c1, .string t, .int .i64 mm] rfl rfl (new_at W0 [.int .u8 2, .string x, .string y, .slice A1 n1 c1, .string t, .int .i64 mm] 39 _ rfl) (by simp [Value.oneCell']) (by have := HPN.out; unfold maxLen; omega) (by have := HPN.out; omega) (by have := HS0.out.sz; rw [World.size_alloc]; omega) ?_; intro v5 w5 hown5 hgr5 _ hat5; obtain ⟨g5, c5, rfl⟩ := own_form3 hown5; rw [← HCE.out] at hown5; have HPU5 := Lib.hid (HS0.out.push (b := ⟨nd, x, y, t, A1, c1⟩) (HIN.out.plain HAT.out) hown5 hgr5 (by have := at_row hat5; rwa [World.size_alloc] at this)); have hgl5 : w5.heap[gl]? = some (.cells #[.slice Va L.length Vc] 22 (0, 0)) := (hgr5.block _ (by rw [World.size_alloc]; have := lt_heap HS0.out.hl; omega) (fun e => by have := (HS0.out.own.lt _ e.symm).1; have := HS0.out.ord; omega)).trans ((Below.heap_alloc _ _ _ (lt_heap HS0.out.hl)).trans HS0.out.hl); have kl5 := cellV w5 gl 0 _ _ _ hgl5; have fl5 := freeV w5 gl 0 _ _ hgl5; clear hown5 hgr5 hat5 hgl5)
    | fail)
  go_ret
  exact ⟨[⟨nd, x, y, t, A1, c1⟩], _, rfl, (FrR.of_below HB0.out hBw2.out).trans HPU5.out.2, HPU5.out.1, fun _ => rfl⟩
theorem res_in {base : Nat} {V : Value} {w3 w2 : World} {s nm t : ByteArray} {A' : Option Addr} {c' : Nat} {L : List AB} {q : Nd} (ho : w3.ownsRow w2.heap.size 41 3 (.slice A' L.length c') L.length (L.flatMap abCells)) (hb : base ≤ w2.heap.size) (hV : ∀ k, V.ownBlock = some k → k < w2.heap.size)
    (h1 : s.data.toList = q.space) (h2 : nm.data.toList = q.name) (h3 : L.map abVal = q.attrs) (h4 : t.data.toList = q.text) (h5 : q.kind < 256) (h6 : 0 ≤ q.many) (h7 : q.many ≤ 9223372036854775807) : NdIn q s nm t A' c' w3 (OffN base V w3) ∧ q.attrs.length = L.length := by
  obtain ⟨r1, r2, r3, r4, r5⟩ := RdS.of_own (C := AtS) (S := OffN base V w3) abCells abVal (fun _ => rfl) (by decide) L (fun b _ => ab_R _ _ b) (fun g hg => by
    have h3 := ho.lt g hg
    exact ⟨by omega, h3.2, fun e => by have := hV g e.symm; omega⟩) ho
  rw [h3] at r1
  have hl : q.attrs.length = L.length := by rw [← h3, List.length_map]
  exact ⟨⟨h1, h2, h4, r1, by rw [hl]; exact r3, r4, r5, h5, by omega, h7⟩, hl⟩
def ResIH (B base gv gl gt : Nat) (A : Option Addr) (c : Nat) (v : List Nd) (d : Nat) : Prop := ∀ (m : Nat) (D : List (List UInt8 × AB)) (E : List (List At)) (L : List NB) (V : Value) (r : List Nd) (w : World), MapD w m D → EnvD D E → L.length < v.length → restD d (v.drop L.length) = some r → RwSt (resClo gv gl gt) 44 B base gv gl gt A c v L V w →
    Calls Tryz.prog 17 #[.map (some m), .pointer (some ⟨gv, 0, none⟩), .pointer (some ⟨gl, 0, none⟩), .pointer (some ⟨gt, 0, none⟩)] w (WalkTo (resClo gv gl gt) 44 B base gv gl gt A c v L V (walkD resF resDn d E (v.drop L.length)) w)
theorem nb_res {q : Nd} {s nm t : ByteArray} {A : Option Addr} {c k : Nat} {m : Int} (h1 : q.kind = 1) (hl : q.attrs.length = k) (hm : q.many = m) : nbCells ⟨q, s, nm, t, A, c⟩ = [.int .u8 1, .string s, .string nm, .slice A k c, .string t, .int .i64 m] := by
  unfold nbCells ndCells
  rw [h1, hl, hm]
  rfl
theorem res_got {base m0 : Nat} {V : Value} {w3 w2 : World} {s nm t : ByteArray} {A' : Option Addr} {c' : Nat} {L : List AB} {E : List (List At)} {nd : Nd} (ho : w3.ownsRow w2.heap.size 41 3 (.slice A' L.length c') L.length (L.flatMap abCells)) (hb : base ≤ w2.heap.size) (hV : ∀ k, V.ownBlock = some k → k < w2.heap.size)
    (h1 : s.data.toList = (lookE (nd.attrs :: E) (Ns.nameP nd.name).1).1) (h2 : nm.data.toList = (Ns.nameP nd.name).2) (h3 : L.map abVal = (atsE (nd.attrs :: E) [] nd.attrs).1) (h4 : t.data.toList = []) (h6 : 0 ≤ nd.many ∧ nd.many ≤ 9223372036854775807) (hm : nd.many = (m0 : Int)) :
    NdIn (resF E nd).1 s nm t A' c' w3 (OffN base V w3) ∧ nbCells ⟨(resF E nd).1, s, nm, t, A', c'⟩ = [.int .u8 1, .string s, .string nm, .slice A' L.length c', .string t, .int .i64 (m0 : Int)] := by
  obtain ⟨r1, r2⟩ := res_in (q := (resF E nd).1) ho hb hV h1 h2 h3 h4 (show 1 < 256 by decide) h6.1 h6.2
  exact ⟨r1, nb_res rfl r2 hm⟩
theorem res_elem (B base gv gl gt : Nat) (A : Option Addr) (c : Nat) (v : List Nd) (hl : v.length ≤ 512) (hsm : ∀ n ∈ v, SmallN n) (hrw : rawV v = true) (hob : ∀ n ∈ v, ndOk n = true) (d : Nat) (hIH : ResIH B base gv gl gt A c v d) (m : Nat) (D : List (List UInt8 × AB)) (E : List (List At)) (L : List NB) (V : Value) (r : List Nd) (w : World) (hmd : MapD w m D) (hE : EnvD D E) (hp : L.length < v.length) (hr : restD (d + 1) (v.drop L.length) = some r) (h : RwSt (resClo gv gl gt) 44 B base gv gl gt A c v L V w) (hk : (v[L.length]'hp).kind = 1) :
    Calls Tryz.prog 17 #[.map (some m), .pointer (some ⟨gv, 0, none⟩), .pointer (some ⟨gl, 0, none⟩), .pointer (some ⟨gt, 0, none⟩)] w (WalkTo (resClo gv gl gt) 44 B base gv gl gt A c v L V (walkD resF resDn (d + 1) E (v.drop L.length)) w) := by
  have hs := hsm _ (List.getElem_mem hp)
  have hraw := (rawV_iff.1 hrw _ (List.getElem_mem hp)).2
  have hok := hob _ (List.getElem_mem hp)
  obtain ⟨i0, hi, hz0, hz1, hz2⟩ := info_parts infoNd
  have HI := Lib.hid hi
  have HZ0 := Lib.hid hz0
  have HZ1 := Lib.hid hz1
  have HZ2 := Lib.hid hz2
  obtain ⟨Va, Vc, rfl⟩ := own_form2 h.own
  obtain ⟨b0, off, x, y, t, A1, c1, hA, hbB, hin, q0, q1, q2, q3, q4, q5⟩ := nd_at h.rd hp
  have hBw : B ≤ w.heap.size := by have := h.ord; have := h.sz; omega
  have hdr := List.drop_eq_getElem_cons hp
  obtain ⟨nd, hnd⟩ : ∃ nd, v[L.length]'hp = nd := ⟨_, rfl⟩
  rw [hnd] at hin q0 q3 q5 hdr hk hs hraw hok
  rw [hdr]
  obtain ⟨n, hn⟩ : ∃ n, v.length = n := ⟨_, rfl⟩
  have HLN := Lib.hid hn
  obtain ⟨n1, hn1⟩ : ∃ n1, nd.attrs.length = n1 := ⟨_, rfl⟩
  have bp : (0 : Int) ≤ (L.length : Int) ∧ (L.length : Int) < (n : Int) := by omega
  have bn : (n : Int) ≤ 512 := by omega
  have HPN : Hid (L.length ≤ 512) := Lib.hid (by omega)
  have kv := cell_of_one h.hv
  have kl := cell_of_one h.hl
  have HST := Lib.hid h
  rw [hn] at kv
  rw [hn1] at q3
  have HIN := Lib.hid hin
  rw [hdr] at hr
  obtain ⟨_, hm0, bb, hkids⟩ := restD_ok hr
  rw [Nat.add_sub_cancel] at hkids
  obtain ⟨hfn, htx, _, hao⟩ := ndOk_one hok hk
  obtain ⟨hfa, hnd2, hla⟩ := atsOk_iff.1 hao
  rw [walkD_elem (by omega)]
  obtain ⟨m0, hm0'⟩ : ∃ m0 : Nat, nd.many = (m0 : Int) := ⟨nd.many.toNat, by omega⟩
  rw [hm0'] at q5
  rw [hm0', Int.toNat_natCast] at hkids
  rw [hm0', Int.toNat_natCast]
  rw [hk, show ((1 : Nat) : Int) = 1 from rfl] at q0
  have bm0 : (m0 : Int) ≤ 512 := by
    have := kidsD_len hkids
    rw [List.length_drop] at this
    omega
  obtain ⟨W0, hW0⟩ : ∃ W0, w.alloc (.cells #[.int .u8 1, .string x, .string y, .slice A1 n1 c1, .string t, .int .i64 (m0 : Int)] 39) = W0 := ⟨_, rfl⟩
  have HB0 : Hid (Below w.heap.size w W0) := Lib.hid (by rw [← hW0]; exact stpA (Below.refl _ _) _)
  have HX0 : Hid (W0.heap[w.heap.size]? = some (.cells #[.int .u8 1, .string x, .string y, .slice A1 n1 c1, .string t, .int .i64 (m0 : Int)] 39 (0, 0))) := Lib.hid (by rw [← hW0]; exact heap_alloc_new w _)
  have HS0 := Lib.hid (h.below HB0.out)
  have k00 := cellV W0 _ 0 _ _ _ HX0.out
  obtain ⟨mb, hmb⟩ : ∃ mb, W0.heap.size = mb := ⟨_, rfl⟩
  have HMB : Hid (mb = w.heap.size + 1) := Lib.hid (by rw [← hmb, ← hW0, World.size_alloc])
  have HCL : Hid (Calls Tryz.prog 18 #[.map (some m)] W0 fun e w' => e = .returned (.map (some mb)) ∧ MapD w' mb D ∧ Below W0.heap.size W0 w') := Lib.hid (by
    obtain ⟨es, cl, hb, he⟩ := hmd
    have hcl := clone11 m D W0 (MapD.kept ⟨es, cl, hb, he⟩ (HB0.out.block m (lt_heap hb)))
    rw [hmb] at hcl ⊢
    exact hcl.mono fun e w' hh => ⟨hh.1, hh.2.1, hh.2.2.1⟩)
  have HRA : Hid (∀ W, Below w.heap.size w W → RdS AtS W (fun k => k < w.heap.size) A1 nd.attrs) := Lib.hid fun W hW => hin.attrs.keep (fun b hb => Nat.lt_of_lt_of_le hb hBw) fun b o hb => hW.cell (p := ⟨b, o, none⟩) (Nat.lt_of_lt_of_le hb hBw)
  obtain ⟨dq, hdq⟩ : ∃ dq, declsOk nd.attrs = dq := ⟨_, rfl⟩
  have HDE : Hid (∀ W, Below W0.heap.size W0 W → MapD W mb D → Calls Tryz.prog 19 #[.map (some mb), .slice A1 n1 c1] W fun e w' => e = .returned (.bool dq) ∧ Below mb W w' ∧ W.heap.size ≤ w'.heap.size ∧ (declsOk nd.attrs = true → MapD w' mb (insA D nd.attrs))) := Lib.hid fun W hW hM => Calls.mono (declare11 mb D A1 n1 c1 nd.attrs W hM ((HRA.out W (HB0.out.trans (hW.mono HB0.out.size))).mono fun k hk => by have := HMB.out; omega) hn1 (by omega) (fun a ha => (hs.each a ha).2.1) dq hdq) fun e w' hh => ⟨hh.1, hh.2.1, hh.2.2.1, fun h2 => hh.2.2.2 (hdq.symm.trans h2)⟩
  have HE2 : Hid (EnvD (insA D nd.attrs) (nd.attrs :: E)) := Lib.hid (hE.ins (fun a ha => (hfa a ha).1) (names_nodup hnd2 hraw))
  obtain ⟨oq, hoq⟩ : ∃ oq, okR (nd.attrs :: E) nd.name nd.attrs = oq := ⟨_, rfl⟩
  have HRE : Hid (∀ W, declsOk nd.attrs = true → Below w.heap.size w W → W.heap[w.heap.size]? = some (.cells #[.int .u8 1, .string x, .string y, .slice A1 n1 c1, .string t, .int .i64 (m0 : Int)] 39 (0, 0)) → MapD W mb (insA D nd.attrs) → Calls Tryz.prog 20 #[.map (some mb), .pointer (some ⟨w.heap.size, 0, none⟩)] W fun e w' => ∃ (s nm : ByteArray) (A' : Option Addr) (c' : Nat) (L3 : List AB), e = .returned (.bool oq) ∧ s.data.toList = (lookE (nd.attrs :: E) (Ns.nameP nd.name).1).1 ∧ nm.data.toList = (Ns.nameP nd.name).2 ∧ L3.map abVal = (atsE (nd.attrs :: E) [] nd.attrs).1 ∧
      w'.ownsRow W.heap.size 41 3 (.slice A' L3.length c') L3.length (L3.flatMap abCells) ∧ w'.heap[w.heap.size]? = some (.cells #[.int .u8 1, .string s, .string nm, .slice A' L3.length c', .string t, .int .i64 (m0 : Int)] 39 (0, 0)) ∧ Below w.heap.size W w' ∧ W.heap.size ≤ w'.heap.size ∧ MapD w' mb (insA D nd.attrs)) := Lib.hid fun W hdo hW hX hM => by
    have hr := resolve11 mb w.heap.size (insA D nd.attrs) (nd.attrs :: E) (.int .u8 1) (.int .i64 (m0 : Int)) x y t A1 n1 c1 nd.attrs W hM HE2.out hX (by have := HMB.out; omega) (RdS.mono (HRA.out W hW) fun k hk => Nat.lt_of_lt_of_le hk hW.size) hn1 (by omega) (by rw [← ba_len5, hin.name]; exact hs.name) (fun a ha => (hs.each a ha).2.1) hraw hdo
    rw [hin.name] at hr
    refine hr.mono fun e w' hh => ?_
    obtain ⟨s, nm, A', c', L3, p1, p2, p3, p4, p5, p6, p7, p8, p9⟩ := hh
    exact ⟨s, nm, A', c', L3, by rw [p1, hoq], p2, p3, p4, p5, p6, p7, p8, p9⟩
  have HTX : Hid (t.data.toList = []) := Lib.hid (by rw [hin.text, htx])
  have HMN : Hid (0 ≤ nd.many ∧ nd.many ≤ 9223372036854775807) := Lib.hid ⟨hm0, hin.hi⟩
  have HM0 := Lib.hid hm0'
  have HBW := Lib.hid hBw
  have HIH := Lib.hid hIH
  have HK := Lib.hid hkids
  obtain ⟨KK, hKK⟩ : ∃ KK, walkK (walkD resF resDn d (resDn E nd)) m0 (v.drop (L.length + 1)) = KK := ⟨_, rfl⟩
  rw [hKK]
  have HKK := Lib.hid hKK
  obtain ⟨WW, hWW⟩ : ∃ WW, ((((resF E nd).1 :: KK.1.1, (resF E nd).2 && KK.1.2), KK.2) : (List Nd × Bool) × List Nd) = WW := ⟨_, rfl⟩
  have HWL : Hid (WW.1.1 = (resF E nd).1 :: KK.1.1) := Lib.hid (by rw [← hWW])
  have HWQ : Hid (WW.1.2 = (oq && KK.1.2)) := Lib.hid (by rw [← hWW, ← hoq]; rfl)
  rw [hWW]
  have HDQ := Lib.hid hdq
  have HOQ := Lib.hid hoq
  subst hA
  clear hi hz0 hz1 hz2 h hin hdr hk hok hnd hbB hBw hn1 hn hs hraw hr hm0 hkids hfn htx hao hfa hnd2 hla hm0' hmb hmd hE hdq hoq hKK hWW hIH hsm hrw hob hl
  clear hp
  go_enter Tryz.func17, Tryz.ntmps17
  cases dq with
  | false =>
    have HNO : Hid (oq = false) := Lib.hid (by rw [← HOQ.out]; unfold okR; rw [decls_no _ _ HDQ.out, Bool.and_false])
    go_wp2_with (first
      | (refine wpList_store_row rfl _ _ _ rfl w.heap.size #[.int .u8 1, .string x, .string y, .slice A1 n1 c1, .string t, .int .i64 (m0 : Int)] rfl rfl 39 #[.int .u8 0, .string ⟨#[]⟩, .string ⟨#[]⟩, .slice none 0 0, .string ⟨#[]⟩, .int .i64 0] (heap_alloc_new _ _) sizeNd rfl (by simp [Value.oneCell']) ?_; rw [World.setRow_alloc_new, hW0])
      | (go_at_call 18; (with_reducible refine (HCL.out).mono ?_); rintro e1 w1 ⟨rfl, hm1, hb1⟩; have HB1 := Lib.hid hb1; have HM1 := Lib.hid hm1; have HX1 := Lib.hid (kept_heap HX0.out hb1); have k13 := cellV w1 _ 3 _ _ _ HX1.out; clear hb1 hm1)
      | (go_at_call 19; (with_reducible refine (HDE.out w1 HB1.out HM1.out).mono ?_); rintro e2 w2 ⟨rfl, hb2, hsz2, hm2⟩; have HB2 := Lib.hid hb2; have HSZ2 := Lib.hid hsz2; have HB2w : Hid (Below w.heap.size w w2) := Lib.hid ((HB0.out.trans (HB1.out.mono HB0.out.size)).trans (hb2.mono (by have := HMB.out; omega))); clear hb2 hsz2 hm2)
      | fail)
    go_ret
    exact ⟨[], _, by rw [HWQ.out, HNO.out]; rfl, FrR.of_below HB2w.out HBW.out, by rw [List.append_nil]; exact HST.out.below HB2w.out, fun hh => by rw [HWQ.out, HNO.out] at hh; cases hh⟩
  | true =>
    cases oq with
    | false =>
      go_wp2_with (first
        | (refine wpList_store_row rfl _ _ _ rfl w.heap.size #[.int .u8 1, .string x, .string y, .slice A1 n1 c1, .string t, .int .i64 (m0 : Int)] rfl rfl 39 #[.int .u8 0, .string ⟨#[]⟩, .string ⟨#[]⟩, .slice none 0 0, .string ⟨#[]⟩, .int .i64 0] (heap_alloc_new _ _) sizeNd rfl (by simp [Value.oneCell']) ?_; rw [World.setRow_alloc_new, hW0])
        | (go_at_call 18; (with_reducible refine (HCL.out).mono ?_); rintro e1 w1 ⟨rfl, hm1, hb1⟩; have HB1 := Lib.hid hb1; have HM1 := Lib.hid hm1; have HX1 := Lib.hid (kept_heap HX0.out hb1); have k13 := cellV w1 _ 3 _ _ _ HX1.out; clear hb1 hm1)
        | (go_at_call 19; (with_reducible refine (HDE.out w1 HB1.out HM1.out).mono ?_); rintro e2 w2 ⟨rfl, hb2, hsz2, hm2⟩; have HB2 := Lib.hid hb2; have HSZ2 := Lib.hid hsz2; have HB2w : Hid (Below w.heap.size w w2) := Lib.hid ((HB0.out.trans (HB1.out.mono HB0.out.size)).trans (hb2.mono (by have := HMB.out; omega))); have HX2 : Hid (w2.heap[w.heap.size]? = some (.cells #[.int .u8 1, .string x, .string y, .slice A1 n1 c1, .string t, .int .i64 (m0 : Int)] 39 (0, 0))) := Lib.hid ((hb2.block _ (by have := HMB.out; omega)).trans HX1.out); have HM2 := Lib.hid (hm2 HDQ.out); clear hb2 hsz2 hm2)
        | (go_at_call 20; (with_reducible refine (HRE.out w2 HDQ.out HB2w.out HX2.out HM2.out).mono ?_); rintro e3 w3 ⟨s3, nm3, A3, c3, L3, rfl, hs3, hnm3, hL3, ho3, hx3, hb3, hz3, hm3⟩; have HB3 : Hid (Below w.heap.size w w3) := Lib.hid (HB2w.out.trans hb3); have HX3 := Lib.hid hx3; have HM3 := Lib.hid hm3; have HS3 := Lib.hid (HST.out.below HB3.out); have kl3 := cell_of_one HS3.out.hl; have HRI := Lib.hid (res_got (base := base) (V := .slice Va L.length Vc) (E := E) (nd := nd) ho3 (Nat.le_trans HST.out.sz HB2w.out.size) (fun k hk => Nat.lt_of_lt_of_le (HST.out.own.lt k hk).2 HB2w.out.size) hs3 hnm3 hL3 HTX.out HMN.out HM0.out); have HCE := Lib.hid HRI.out.2; clear hs3 hnm3 hL3 ho3 hx3 hb3 hz3 hm3)
        | fail)
      go_ret
      exact ⟨[], _, by rw [HWQ.out] <;> rfl, FrR.of_below HB3.out HBW.out, by rw [List.append_nil]; exact HST.out.below HB3.out, fun hh => by rw [HWQ.out] at hh; cases hh⟩
    | true =>
      go_wp2_with (first
        | (refine wpList_store_row rfl _ _ _ rfl w.heap.size #[.int .u8 1, .string x, .string y, .slice A1 n1 c1, .string t, .int .i64 (m0 : Int)] rfl rfl 39 #[.int .u8 0, .string ⟨#[]⟩, .string ⟨#[]⟩, .slice none 0 0, .string ⟨#[]⟩, .int .i64 0] (heap_alloc_new _ _) sizeNd rfl (by simp [Value.oneCell']) ?_; rw [World.setRow_alloc_new, hW0])
        | (go_at_call 18; (with_reducible refine (HCL.out).mono ?_); rintro e1 w1 ⟨rfl, hm1, hb1⟩; have HB1 := Lib.hid hb1; have HM1 := Lib.hid hm1; have HX1 := Lib.hid (kept_heap HX0.out hb1); have k13 := cellV w1 _ 3 _ _ _ HX1.out; clear hb1 hm1)
        | (go_at_call 19; (with_reducible refine (HDE.out w1 HB1.out HM1.out).mono ?_); rintro e2 w2 ⟨rfl, hb2, hsz2, hm2⟩; have HB2 := Lib.hid hb2; have HSZ2 := Lib.hid hsz2; have HB2w : Hid (Below w.heap.size w w2) := Lib.hid ((HB0.out.trans (HB1.out.mono HB0.out.size)).trans (hb2.mono (by have := HMB.out; omega))); have HX2 : Hid (w2.heap[w.heap.size]? = some (.cells #[.int .u8 1, .string x, .string y, .slice A1 n1 c1, .string t, .int .i64 (m0 : Int)] 39 (0, 0))) := Lib.hid ((hb2.block _ (by have := HMB.out; omega)).trans HX1.out); have HM2 := Lib.hid (hm2 HDQ.out); clear hb2 hsz2 hm2)
        | (go_at_call 20; (with_reducible refine (HRE.out w2 HDQ.out HB2w.out HX2.out HM2.out).mono ?_); rintro e3 w3 ⟨s3, nm3, A3, c3, L3, rfl, hs3, hnm3, hL3, ho3, hx3, hb3, hz3, hm3⟩; have HB3 : Hid (Below w.heap.size w w3) := Lib.hid (HB2w.out.trans hb3); have HX3 := Lib.hid hx3; have HM3 := Lib.hid hm3; have HS3 := Lib.hid (HST.out.below HB3.out); have kl3 := cell_of_one HS3.out.hl; have HRI := Lib.hid (res_got (base := base) (V := .slice Va L.length Vc) (E := E) (nd := nd) ho3 (Nat.le_trans HST.out.sz HB2w.out.size) (fun k hk => Nat.lt_of_lt_of_le (HST.out.own.lt k hk).2 HB2w.out.size) hs3 hnm3 hL3 HTX.out HMN.out HM0.out); have HCE := Lib.hid HRI.out.2; clear hs3 hnm3 hL3 ho3 hx3 hb3 hz3 hm3)
        | (refine wpList_load_row rfl _ _ rfl w.heap.size rfl 39 #[.int .u8 1, .string s3, .string nm3, .slice A3 L3.length c3, .string t, .int .i64 (m0 : Int)] (0, 0) _ HX3.out Tryz.underlying39 rfl sizeNd ?_)
        | (at_builtin; refine wpList_append_own_at _ rfl (.tmp 32) (.tmp 34) 22 rfl base 39 i0 (.agg #[.int .u8 0, .string ⟨#[]⟩, .string ⟨#[]⟩, .slice none 0 0, .string ⟨#[]⟩, .int .i64 0]) 6 88 Tryz.underlying22 HI.out HZ0.out HZ1.out HZ2.out rfl (by decide) _ L.length _ rfl (own_belowK HS3.out.own (stpA (Below.refl _ _) _) (Nat.le_refl _)) ⟨w3.heap.size, 0, none⟩ 1 1 [.int .u8 1, .string s3, .string nm3, .slice A3 L3.length c3, .string t, .int .i64 (m0 : Int)] rfl rfl (new_at w3 [.int .u8 1, .string s3, .string nm3, .slice A3 L3.length c3, .string t, .int .i64 (m0 : Int)] 39 _ rfl) (by simp [Value.oneCell']) (by have := HPN.out; unfold maxLen; omega) (by have := HPN.out; omega) (by have := HS3.out.sz; rw [World.size_alloc]; omega) ?_; intro v5 w5 hown5 hgr5 _ hat5; obtain ⟨g5, c5, rfl⟩ := own_form3 hown5; rw [← HCE.out] at hown5; have HPU5 := Lib.hid (HS3.out.push (b := (NB.mk (resF E nd).1 s3 nm3 t A3 c3)) HRI.out.1 hown5 hgr5 (by have := at_row hat5; rwa [World.size_alloc] at this)); have hgl5 : w5.heap[gl]? = some (.cells #[.slice Va L.length Vc] 22 (0, 0)) := (hgr5.block _ (by rw [World.size_alloc]; have := lt_heap HS3.out.hl; omega) (fun e => by have := (HS3.out.own.lt _ e.symm).1; have := HS3.out.ord; omega)).trans ((Below.heap_alloc _ _ _ (lt_heap HS3.out.hl)).trans HS3.out.hl); have kl5 := cellV w5 gl 0 _ _ _ hgl5; have fl5 := freeV w5 gl 0 _ _ hgl5; have hbx5 := (hgr5.block w.heap.size (by rw [World.size_alloc]; have := lt_heap HX3.out; omega) (fun e => by have := (HST.out.own.lt _ e.symm).2; omega)).trans ((Below.heap_alloc _ _ _ (lt_heap HX3.out)).trans HX3.out); have HX5 : Hid ((w5.setCell ⟨gl, 0, none⟩ (.slice (some ⟨g5, 0, none⟩) (L.length + 1) c5)).heap[w.heap.size]? = some (.cells #[.int .u8 1, .string s3, .string nm3, .slice A3 L3.length c3, .string t, .int .i64 (m0 : Int)] 39 (0, 0))) := Lib.hid ((set_other w5 gl 0 w.heap.size _ (by have := HST.out.ord; have := HST.out.sz; omega)).trans hbx5); have k55 := cellV (w5.setCell ⟨gl, 0, none⟩ (.slice (some ⟨g5, 0, none⟩) (L.length + 1) c5)) _ 5 _ _ _ HX5.out; clear hbx5; clear hown5 hgr5 hat5 hgl5)
        | fail)
      have HM8 : Hid (MapD (w5.setCell ⟨gl, 0, none⟩ (.slice (some ⟨g5, 0, none⟩) (L.length + 1) c5)) mb (insA D nd.attrs)) := Lib.hid (HPU5.out.2.map HM3.out HS3.out.own HS3.out.hl)
      clear k55
      go_loopg [38] m0 (fun gg i wr => ∃ (j : Nat) (b' : Bool) (M : List NB) (V' : Value), j + gg = m0 ∧ i = .int .i64 j ∧ kidsD (restD d) j false (v.drop (L.length + 1)) = some (b', v.drop (L ++ [(NB.mk (resF E nd).1 s3 nm3 t A3 c3)] ++ M).length) ∧ RwSt (resClo gv gl gt) 44 B base gv gl gt (some ⟨b0, off, none⟩) c v (L ++ [(NB.mk (resF E nd).1 s3 nm3 t A3 c3)] ++ M) V' wr ∧ M.map NB.n = (walkK (walkD resF resDn d (resDn E nd)) j (v.drop (L.length + 1))).1.1 ∧ (walkK (walkD resF resDn d (resDn E nd)) j (v.drop (L.length + 1))).1.2 = true ∧ FrR B gl (.slice (some ⟨g5, 0, none⟩) (L.length + 1) c5) (w5.setCell ⟨gl, 0, none⟩ (.slice (some ⟨g5, 0, none⟩) (L.length + 1) c5)) V' wr)
      case atStart => exact ⟨0, false, [], _, by omega, rfl, by rw [kidsD, List.append_nil, List.length_append]; rfl, by rw [List.append_nil]; exact HPU5.out.1, by simp [walkK], by simp [walkK], FrR.refl _ _ _ _⟩
      case round =>
        obtain ⟨j, b', M, V', hjg, rfl, hkd, hst, hM, hq, hfr⟩ := hrel
        obtain ⟨L2, hL2⟩ : ∃ L2, L ++ [(NB.mk (resF E nd).1 s3 nm3 t A3 c3)] ++ M = L2 := ⟨_, rfl⟩
        rw [hL2] at hkd hst
        have HL2 := Lib.hid hL2
        have HSTj := Lib.hid hst
        have HFR := Lib.hid hfr
        have HMj := Lib.hid hM
        have HQj := Lib.hid hq
        have hrest := (walkK_rest (f := resF) (dn := resDn) (fun l r e h => walkD_rest d l r e h) (resDn E nd) j false _ b' _ hkd).1
        by_cases hlt : j < m0
        · have hlt2 : (j : Int) < (m0 : Int) := by omega
          obtain ⟨hp2, r2, h1, h2, h3⟩ := kids_more HK.out hkd hlt
          have hcall := HIH.out mb (insA D nd.attrs) (nd.attrs :: E) L2 V' r2 wr (hfr.map HM8.out HPU5.out.1.own HPU5.out.1.hl) HE2.out hp2 h1 hst
          have hlen2 := (walkD_rest (f := resF) (dn := resDn) d _ _ (nd.attrs :: E) h1).2
          have hsn := walkK_snoc (g := walkD resF resDn d (resDn E nd)) j (v.drop (L.length + 1))
          rw [hrest] at hsn
          obtain ⟨WI, hWI⟩ : ∃ WI, walkD resF resDn d (nd.attrs :: E) (v.drop L2.length) = WI := ⟨_, rfl⟩
          rw [hWI] at hcall hlen2
          rw [show resDn E nd = nd.attrs :: E from rfl, hWI] at hsn
          obtain ⟨qi, hqi⟩ : ∃ qi, WI.1.2 = qi := ⟨_, rfl⟩
          have HSN : Hid ((walkK (walkD resF resDn d (resDn E nd)) (j + 1) (v.drop (L.length + 1))).1.1 = M.map NB.n ++ WI.1.1 ∧ (walkK (walkD resF resDn d (resDn E nd)) (j + 1) (v.drop (L.length + 1))).1.2 = qi) := Lib.hid (by
            rw [show resDn E nd = nd.attrs :: E from rfl, hsn, hM, show resDn E nd = nd.attrs :: E from rfl, ← hqi]
            refine ⟨rfl, ?_⟩
            rw [show resDn E nd = nd.attrs :: E from rfl] at hq
            show (_ && _) = _
            rw [hq, Bool.true_and])
          have HC : Hid (Calls Tryz.prog 17 #[.map (some mb), .pointer (some ⟨gv, 0, none⟩), .pointer (some ⟨gl, 0, none⟩), .pointer (some ⟨gt, 0, none⟩)] wr fun e w' => ∃ (M2 : List NB) (V2 : Value), e = .returned (.bool qi) ∧ FrR B gl V' wr V2 w' ∧ RwSt (resClo gv gl gt) 44 B base gv gl gt (some ⟨b0, off, none⟩) c v (L2 ++ M2) V2 w' ∧ (WI.1.2 = true → M2.map NB.n = WI.1.1)) := Lib.hid (by
            unfold WalkTo at hcall
            refine hcall.mono fun e w' hh => ?_
            obtain ⟨M2, V2, e1, e2, e3, e4⟩ := hh
            exact ⟨M2, V2, by rw [e1, hqi], e2, e3, e4⟩)
          have HQI := Lib.hid hqi
          have kt := cell_of_one hst.ht
          unfold resClo at kt
          have H2 : Hid (∃ b2, kidsD (restD d) (j + 1) false (v.drop (L.length + 1)) = some (b2, v.drop (v.length - r2.length))) := Lib.hid ⟨_, h2⟩
          have HLE := Lib.hid hlen2
          have HLT := Lib.hid hlt
          have HP2 := Lib.hid hp2
          clear hcall hkd h1 h2 h3 hst hfr hM hq hrest hsn hqi hWI hlen2 hL2 hp2 hlt
          cases qi with
          | false =>
            have HNO : Hid (KK.1.2 = false) := Lib.hid (by rw [← HKK.out]; exact walkK_no HSN.out.2 (by have := HLT.out; omega))
            go_wp2_with (first
              | (go_at_call 17; (with_reducible refine (HC.out).mono ?_); rintro e6 w6 ⟨M2, V2, rfl, hf6, hs6, hm6⟩; have HF6 := Lib.hid hf6; have HS6 := Lib.hid hs6; clear hf6 hs6 hm6)
              | fail)
            go_ret
            exact ⟨[(NB.mk (resF E nd).1 s3 nm3 t A3 c3)] ++ M ++ M2, V2, by rw [HWQ.out, HNO.out, Bool.and_false]; rfl, ((FrR.of_below HB3.out HBW.out).trans HPU5.out.2).trans (HFR.out.trans HF6.out), by rw [← List.append_assoc, ← List.append_assoc, HL2.out]; exact HS6.out, fun hh => by rw [HWQ.out, HNO.out, Bool.and_false] at hh; cases hh⟩
          | true =>
            go_wp2_with (first
              | (go_at_call 17; (with_reducible refine (HC.out).mono ?_); rintro e6 w6 ⟨M2, V2, rfl, hf6, hs6, hm6⟩; have HF6 := Lib.hid hf6; have HS6 := Lib.hid hs6; have HM6 := Lib.hid (hm6 HQI.out); clear hf6 hs6 hm6)
              | fail)
            go_roundg (gk - 1)
            case measure => have := HLT.out; omega
            case rel =>
              obtain ⟨b2, hk2⟩ := H2.out
              refine ⟨j + 1, b2, M ++ M2, V2, by have := HLT.out; omega, by go_num, ?_, by rw [← List.append_assoc, HL2.out]; exact HS6.out, by rw [List.map_append, HM6.out, HSN.out.1], HSN.out.2, HFR.out.trans HF6.out⟩
              rw [hk2, ← List.append_assoc, HL2.out, List.length_append]
              have h9 := congrArg List.length HM6.out
              rw [List.length_map] at h9
              have h8 := HLE.out
              rw [List.length_drop] at h8
              have := HP2.out
              rw [show v.length - r2.length = L2.length + M2.length by omega]
        · obtain rfl : j = m0 := by omega
          have hjj : ¬ ((j : Int) < (j : Int)) := by omega
          have HKQ : Hid (KK.1.2 = true ∧ M.map NB.n = KK.1.1) := Lib.hid (by rw [← HKK.out]; exact ⟨hq, hM⟩)
          clear hkd hst hfr hM hq hrest hL2
          go_wp2_with fail
          go_ret
          exact ⟨[(NB.mk (resF E nd).1 s3 nm3 t A3 c3)] ++ M, V', by rw [HWQ.out, HKQ.out.1]; rfl, ((FrR.of_below HB3.out HBW.out).trans HPU5.out.2).trans HFR.out, by rw [← List.append_assoc, HL2.out]; exact HSTj.out, fun _ => by rw [List.map_append, HKQ.out.2, HWL.out]; rfl⟩
theorem res_all (B base gv gl gt : Nat) (A : Option Addr) (c : Nat) (v : List Nd) (hl : v.length ≤ 512) (hsm : ∀ n ∈ v, SmallN n) (hrw : rawV v = true) (hob : ∀ n ∈ v, ndOk n = true) : ∀ d, ResIH B base gv gl gt A c v d := by
  intro d
  induction d with
  | zero =>
    intro m D E L V r w hm hE hp hr h
    have hk : (v[L.length]'hp).kind = 2 := by
      have h' := hr
      rw [List.drop_eq_getElem_cons hp, restD] at h'
      by_cases hn : ndOk (v[L.length]'hp) = true ∧ (v[L.length]'hp).kind = 2
      · exact hn.2
      · rw [if_neg hn] at h'; cases h'
    exact res_text B base gv gl gt A c v hl m 0 E L V w hp h hk (hob _ (List.getElem_mem hp))
  | succ d ih =>
    intro m D E L V r w hm hE hp hr h
    have hok := hob _ (List.getElem_mem hp)
    rcases ndOk_kind hok with hk | hk
    · exact res_elem B base gv gl gt A c v hl hsm hrw hob d ih m D E L V r w hm hE hp hr h hk
    · exact res_text B base gv gl gt A c v hl m (d + 1) E L V w hp h hk hok
end Hx
end Go.Proofs.YteobcohjikjalaaGreatDoor
