/-
  Texts of one seat, put together: SpaT.
-/
import Derived.Test.YteobcohjikjalaaGreatDoorSp41
import Derived.Test.YteobcohjikjalaaGreatDoorSp42
import Derived.Test.YteobcohjikjalaaGreatDoorSp19
import Derived.Test.YteobcohjikjalaaGreatDoorSp25
set_option linter.unusedSimpArgs false
namespace Go.Proofs.YteobcohjikjalaaGreatDoor
open Go.RowKit
namespace Hx
open Lx Tr Tx Nmb Es Ns
set_option maxRecDepth 100000
set_option maxHeartbeats 16000000
set_option linter.unusedVariables false
theorem prefN_len (k : Nat) (hk : k ≤ 1000000) : (prefN k).length ≤ 10 := by
  unfold prefN
  have := dg_len_to 6 (k + 1) (by omega)
  rw [List.length_cons]
  omega
theorem pref_ba (k : Nat) (hk : k ≤ 1000000) : ∃ t : ByteArray, t.data.toList = prefN k ∧ t.size ≤ 10 := by
  refine ⟨⟨(prefN k).toArray⟩, by simp, ?_⟩
  show (prefN k).toArray.size ≤ 10
  rw [List.size_toArray]
  exact prefN_len k hk
theorem ba_app2 (a b : ByteArray) : (a ++ b).data.toList = a.data.toList ++ b.data.toList := by simp
theorem num_take (S : List (List UInt8)) (j : Nat) (hj : j < S.length) : numD 0 (S.take (j + 1)) = numD 0 (S.take j) ++ [⟨[], xmlns5 ++ 58 :: prefN j, S[j]⟩] := by
  rw [List.take_succ_eq_append_getElem hj, numD_snoc, List.length_take, Nat.min_eq_left (Nat.le_of_lt hj), Nat.zero_add]
def BareTo (nd : Nd) (o : List UInt8) (y z : ByteArray) (w : World) (e : Ending) (w' : World) : Prop := ∃ (A' : Option Addr) (c' : Nat) (L : List AB), e = .returned (.agg #[.int .u8 1, .string ⟨#[]⟩, .string y, .slice A' L.length c', .string z, .int .i64 nd.many]) ∧ L.map abVal = bareL o nd ∧
  w'.ownsRow (w.heap.size + 2) 41 3 (.slice A' L.length c') L.length (L.flatMap abCells) ∧ Below w.heap.size w w'
theorem ownD_len (o : List UInt8) (nd : Nd) : (ownD o nd).length ≤ 1 := by
  unfold ownD
  split <;> simp
theorem BaSt.first {base : Nat} {W0 w5 w1 : World} {L : List AB} {V VS : Value} {S : List ByteArray} (ho : w5.ownsRow base 41 3 V L.length (L.flatMap abCells)) (hz : base ≤ w5.heap.size) (hb : Below base W0 w5)
    (hs : w1.ownsRow w5.heap.size 9 1 VS S.length (S.map Value.string)) (hb1 : Below w5.heap.size w5 w1) : BaSt base w5.heap.size W0 L V S VS w1 :=
  ⟨own_belowK ho hb1 (Nat.le_refl _), hs, fun g hg e => by have h1 := (ho.lt g hg).2; have h2 := (hs.lt g e).1; omega, Nat.le_trans hz hb1.size, hb.trans (hb1.mono hz)⟩
theorem BaSt.nil (base : Nat) (W0 : World) (h : base ≤ W0.heap.size) : BaSt base 0 W0 [] (.slice none 0 0) [] (.slice none 0 0) W0 :=
  ⟨World.ownsRow_nil _ _ _ _, World.ownsRow_nil _ _ _ _, (fun g hg => by cases hg), h, Below.refl _ _⟩
theorem BaSt.lt {base bS : Nat} {w : World} {L : List AB} {V : Value} {S : List ByteArray} {VS : Value} {wr : World} {n : Nat} {X : List At} (h : L.map abVal = X) (hX : X.length ≤ n) : L.length ≤ n := by
  rw [← h, List.length_map] at hX
  exact hX
theorem bare_end {nd : Nd} {o : List UInt8} {y z : ByteArray} {w W0 wr : World} {bS n : Nat} {L : List AB} {A1 : Option Addr} {c1 : Nat} {S : List ByteArray} {VS : Value} (h : BaSt (w.heap.size + 2) bS W0 L (.slice A1 L.length c1) S VS wr) (hL : L.map abVal = bareL o nd) (hB : Below w.heap.size w W0) (m : Int) (hm : nd.many = m) (cs : Array Value) (v1 v3 : Value) :
    BareTo nd o y z w (.returned (.agg #[.int .u8 1, .string ⟨#[]⟩, .string y, .slice A1 L.length c1, .string z, .int .i64 m])) (((wr.setCell ⟨w.heap.size, 1, none⟩ v1).setCell ⟨w.heap.size, 3, none⟩ v3).setRow (w.heap.size + 1) cs) := by
  have h1 := own_setRow (own_setCell (own_setCell h.own w.heap.size 1 (by omega) v1) w.heap.size 3 (by omega) v3) (w.heap.size + 1) (by omega) cs
  have hb := hB.trans (h.below.mono (by omega))
  exact ⟨A1, c1, L, by rw [hm], hL, h1, below_setRowV ((hb.setCell (p := ⟨w.heap.size, 1, none⟩) (Nat.le_refl _) v1).setCell (p := ⟨w.heap.size, 3, none⟩) (Nat.le_refl _) v3) (by omega) cs⟩
theorem bare11 (nd : Nd) (x y z o : ByteArray) (A : Option Addr) (c : Nat) (w : World) (h : NdAt nd x y z A c w) (hs : SmallN nd) (hk : nd.kind = 1) (hla : nd.attrs.length ≤ 1000) (hT : TbH w) :
    Calls Tryz.prog 27 #[NdV nd x y z A c, .string o] w (BareTo nd o.data.toList y z w) := by
  obtain ⟨i0, hi, hz0, hz1, hz2⟩ := info_parts infoAt
  have HI := Lib.hid hi
  have HZ0 := Lib.hid hz0
  have HZ1 := Lib.hid hz1
  have HZ2 := Lib.hid hz2
  obtain ⟨n, hn⟩ : ∃ n, nd.attrs.length = n := ⟨_, rfl⟩
  obtain ⟨m0, hm0⟩ : ∃ m0, nd.many = m0 := ⟨_, rfl⟩
  have bn : (n : Int) ≤ 1000 := by omega
  obtain ⟨W0, hW0⟩ : ∃ W0, (w.alloc (.cells #[.int .u8 1, .string x, .string y, .slice A n c, .string z, .int .i64 m0] 39)).alloc (.cells #[.int .u8 0, .string ⟨#[]⟩, .string ⟨#[]⟩, .slice none 0 0, .string ⟨#[]⟩, .int .i64 0] 39) = W0 := ⟨_, rfl⟩
  have HB0 : Hid (Below w.heap.size w W0) := Lib.hid (by rw [← hW0]; exact stpA (stpA (Below.refl _ _) _) _)
  have HS0 : Hid (W0.heap.size = w.heap.size + 2) := Lib.hid (by rw [← hW0, World.size_alloc, World.size_alloc])
  have HN0 : Hid (W0.heap[w.heap.size]? = some (.cells #[.int .u8 1, .string x, .string y, .slice A n c, .string z, .int .i64 m0] 39 (0, 0))) := Lib.hid (by rw [← hW0]; exact kept_heap (heap_alloc_new w _) (stpA (Below.refl _ _) _))
  have HR0 : Hid (W0.heap[w.heap.size + 1]? = some (.cells #[.int .u8 0, .string ⟨#[]⟩, .string ⟨#[]⟩, .slice none 0 0, .string ⟨#[]⟩, .int .i64 0] 39 (0, 0))) := Lib.hid (by have := heap_alloc_new (w.alloc (.cells #[.int .u8 1, .string x, .string y, .slice A n c, .string z, .int .i64 m0] 39)) (.cells #[.int .u8 0, .string ⟨#[]⟩, .string ⟨#[]⟩, .slice none 0 0, .string ⟨#[]⟩, .int .i64 0] 39); rw [World.size_alloc, hW0] at this; exact this)
  have k01 := cellV W0 _ 1 _ _ _ HN0.out
  have HRA : Hid (∀ W, Below w.heap.size w W → RdB AtS W A nd.attrs) := Lib.hid fun W hW => h.rd.on hW
  have HNU : Hid (∀ W, Below w.heap.size w W → Calls Tryz.prog 49 #[.slice A n c] W (NumTo nd.attrs W)) := Lib.hid fun W hW => numbered11 A n c nd.attrs W (h.rd.on hW) hn (by omega)
  have HEA := Lib.hid hs.each
  have HT := Lib.hid hT
  have HXS := Lib.hid h.space
  have HNL := Lib.hid hn
  have HMM := Lib.hid hm0
  obtain ⟨oq, hoq⟩ : ∃ oq, decide (x.data.toList = o.data.toList) = oq := ⟨_, rfl⟩
  have fo := eq_two x o oq hoq
  have HOQ := Lib.hid hoq
  have HLA := Lib.hid hla
  unfold NdV
  rw [hk, hn, hm0]
  clear hi hz0 hz1 hz2 h hs hk hT hn hm0 hoq hla
  cases oq with
  | true =>
    have HST0 : Hid (BaSt (w.heap.size + 2) 0 W0 [] (.slice none 0 0) [] (.slice none 0 0) W0) := Lib.hid (BaSt.nil _ _ (by rw [HS0.out]; exact Nat.le_refl _))
    have HOD : Hid (ownD o.data.toList nd = []) := Lib.hid (by unfold ownD; rw [if_pos (HXS.out.symm.trans (of_decide_eq_true HOQ.out))])
    have k03 := cellV W0 _ 3 _ _ _ HN0.out
    go_enter Tryz.func27, Tryz.ntmps27
    go_wp2_with (first
      | (rw [hW0])
      | (go_at_call 49; (with_reducible refine (HNU.out W0 HB0.out).mono ?_); rintro e1 w1 ⟨AS, cS, S, rfl, hS, hoS, hb1⟩; have HS1 := Lib.hid hS; have HST1 := Lib.hid (BaSt.first HST0.out.own HST0.out.sz HST0.out.below hoS hb1); clear hS hoS hb1)
      | fail)
    have HSL : Hid (S.length ≤ 1000) := Lib.hid (by have h1 := spacesL_len nd.attrs []; rw [← HS1.out, List.length_map] at h1; have := HLA.out; rw [List.length_nil] at h1; omega)
    have bSl : (S.length : Int) ≤ 1000 := by have := HSL.out; omega
    obtain ⟨SL, hSL⟩ : ∃ SL, spacesL [] nd.attrs = SL := ⟨_, rfl⟩
    have HSS : Hid (S.map (·.data.toList) = SL) := Lib.hid (by rw [HS1.out, hSL])
    have HSE := Lib.hid hSL
    obtain ⟨bS, hbS⟩ : ∃ bS, W0.heap.size = bS := ⟨_, rfl⟩
    rw [hbS] at HST1
    clear hSL hbS
    go_loopg [5, 26] S.length (fun gg x5 i wr => ∃ (j : Nat) (L : List AB) (A1 : Option Addr) (c1 : Nat), j + gg = S.length ∧ i = .int .i64 j ∧ x5 = .slice A1 L.length c1 ∧ L.map abVal = ownD o.data.toList nd ++ numD 0 (SL.take j) ∧ BaSt (w.heap.size + 2) bS W0 L x5 S (.slice AS S.length cS) wr)
    case atStart => exact ⟨0, ([] : List AB), _, _, by omega, rfl, rfl, by rw [HOD.out]; rfl, HST1.out⟩
    case round =>
      obtain ⟨j, L, A1, c1, hjg, rfl, rfl, hL, hst⟩ := hrel
      have HST := Lib.hid hst
      have HL := Lib.hid hL
      have HLB : Hid (L.length ≤ 5000) := Lib.hid (by
        have h1 := congrArg List.length hL
        rw [List.length_map, List.length_append, numD_len, List.length_take] at h1
        have := ownD_len o.data.toList nd
        have h2 := congrArg List.length HSS.out
        rw [List.length_map] at h2
        have := HSL.out
        omega)
      by_cases hlt : j < S.length
      · obtain ⟨gs, offs, hA2, hcs⟩ := nu_at hst.sp rfl hlt
        obtain ⟨s, hs⟩ : ∃ s, S[j]'hlt = s := ⟨_, rfl⟩
        rw [hs] at hcs
        have hj6 : j ≤ 1000000 := by have := HSL.out; omega
        obtain ⟨t, ht, hts⟩ := pref_ba j hj6
        have HP : Hid (Calls Tryz.prog 50 #[.int .i64 j] wr fun e w' => e = .returned (.string t) ∧ Below wr.heap.size wr w') := Lib.hid (prefix11 j hj6 t ht wr (HT.out.to (HB0.out.trans (hst.below.mono (by omega)))))
        have l1 : ¬ 9223372036854775807 < 6 + t.size := by omega
        obtain ⟨u, hu⟩ : ∃ u, (⟨#[120, 109, 108, 110, 115, 58]⟩ : ByteArray) ++ t = u := ⟨_, rfl⟩
        have HNX : Hid ((ownD o.data.toList nd ++ numD 0 (SL.take j)) ++ [abVal ⟨⟨#[]⟩, u, s⟩] = ownD o.data.toList nd ++ numD 0 (SL.take (j + 1))) := Lib.hid (by
          have hj2 : j < SL.length := by rw [← HSS.out, List.length_map]; exact hlt
          rw [num_take SL j hj2, List.append_assoc]
          congr 2
          unfold abVal
          dsimp only
          rw [← hu, ba_app2, ht, ← hs]
          congr 1
          have := congrArg (fun l => l[j]?) HSS.out
          simp only [List.getElem?_map, List.getElem?_eq_getElem hlt, List.getElem?_eq_getElem hj2, Option.map_some, Option.some.injEq] at this
          rw [this]
          rfl)
        have bj : (0 : Int) ≤ (j : Int) ∧ (j : Int) < (S.length : Int) := by omega
        have hlt2 : (j : Int) < (S.length : Int) := by omega
        subst hA2
        clear hst hL hs ht
        go_wp2_with (first
          | (go_at_call 50; (with_reducible refine (HP.out).mono ?_); rintro e2 w2 ⟨rfl, hb2⟩; have HB2 := Lib.hid hb2; clear hb2)
          | (at_builtin; refine wpList_append_own_at _ rfl (.tmp 31) (.tmp 37) 37 rfl (w.heap.size + 2) 41 i0 (.agg #[.string ⟨#[]⟩, .string ⟨#[]⟩, .string ⟨#[]⟩]) 3 48 Tryz.underlying37 HI.out HZ0.out HZ1.out HZ2.out rfl (by decide) _ L.length _ rfl (HST.out.on (stpA HB2.out _)).own ⟨w2.heap.size, 0, none⟩ 1 1 [.string ⟨#[]⟩, .string u, .string s] rfl rfl (new_at w2 [.string ⟨#[]⟩, .string u, .string s] 41 _ rfl) (by simp [Value.oneCell']) (by have := HLB.out; unfold maxLen; omega) (by have := HLB.out; omega) (by have := HST.out.sz; have := (HB2.out).size; rw [World.size_alloc]; omega) ?_; intro v5 w5 hown5 hgr5 _ hat5; obtain ⟨A5, c5, rfl⟩ := own_form2 hown5; have HST5 := Lib.hid (HST.out.snoc (stpA HB2.out _) ⟨⟨#[]⟩, u, s⟩ hown5 hgr5 hat5); clear hown5 hgr5 hat5)
          | fail)
        go_roundg (gk - 1)
        case measure => omega
        case rel => exact ⟨j + 1, L ++ [⟨⟨#[]⟩, u, s⟩], A5, c5, by omega, by go_num, by rw [List.length_append]; rfl, by rw [List.map_append, HL.out]; exact HNX.out, HST5.out⟩
      · obtain rfl : j = S.length := by omega
        have hjj : ¬ ((S.length : Int) < (S.length : Int)) := by omega
        have HLE : Hid (L.map abVal = ownD o.data.toList nd ++ (numD 0 SL ++ (nd.attrs.take 0).map (bareA SL))) := Lib.hid (by
          rw [hL, List.take_of_length_le (by rw [← HSS.out, List.length_map]; exact Nat.le_refl _)]
          simp)
        have HNr : Hid (wr.heap[w.heap.size]? = some (.cells #[.int .u8 1, .string x, .string y, .slice A n c, .string z, .int .i64 m0] 39 (0, 0))) := Lib.hid ((hst.below.block w.heap.size (by omega)).trans HN0.out)
        have kr3 := cellV wr _ 3 _ _ _ HNr.out
        have HSTA : Hid (BaSt (w.heap.size + 2) bS W0 L (.slice A1 L.length c1) S (.slice AS S.length cS) wr) := HST
        obtain ⟨wo, hwo⟩ : ∃ wo : World, wo = wr := ⟨_, rfl⟩
        clear hst hL HL HST HLB
        go_wp2_with fail
        go_loopg [5, 43] n (fun gg x5 i wr => ∃ (j : Nat) (L : List AB) (A1 : Option Addr) (c1 : Nat), j + gg = n ∧ i = .int .i64 j ∧ x5 = .slice A1 L.length c1 ∧ L.map abVal = ownD o.data.toList nd ++ (numD 0 SL ++ (nd.attrs.take j).map (bareA SL)) ∧ BaSt (w.heap.size + 2) bS W0 L x5 S (.slice AS S.length cS) wr)
        case atStart => exact ⟨0, L, A1, c1, by omega, rfl, rfl, HLE.out, HSTA.out⟩
        case round =>
          clear HSTA HLE HNr kr3
          obtain ⟨j, L, A1, c1, hjg, rfl, rfl, hL, hst⟩ := hrel
          have HST := Lib.hid hst
          have HL := Lib.hid hL
          have HLB : Hid (L.length ≤ 5000) := Lib.hid (by
            have h1 := congrArg List.length hL
            rw [List.length_map, List.length_append, List.length_append, numD_len, List.length_map, List.length_take] at h1
            have := ownD_len o.data.toList nd
            have h2 := congrArg List.length HSS.out
            rw [List.length_map] at h2
            have := HSL.out
            have := HLA.out
            omega)
          have hbW : Below w.heap.size w wr := HB0.out.trans (hst.below.mono (by omega))
          by_cases hlt : j < n
          · have hjl : j < nd.attrs.length := by rw [HNL.out]; exact hlt
            obtain ⟨b0, off, x2, y2, z2, hA, hbB, hx, hy, hz, q0, q1, q2⟩ := at_at (HRA.out wr hbW) hjl
            have hea := HEA.out _ (List.getElem_mem hjl)
            obtain ⟨a, ha⟩ : ∃ a, nd.attrs[j]'hjl = a := ⟨_, rfl⟩
            rw [ha] at hx hy hz hea
            have hys2 : y2.size ≤ 1000000 := by rw [sz_le hy]; exact hea.2.1
            have bj : (0 : Int) ≤ (j : Int) ∧ (j : Int) < (n : Int) := by omega
            have hlt2 : (j : Int) < (n : Int) := by omega
            obtain ⟨W1, hW1⟩ : ∃ W1, wr.alloc (.cells #[.string x2, .string y2, .string z2] 41) = W1 := ⟨_, rfl⟩
            have HB1 : Hid (Below wr.heap.size wr W1) := Lib.hid (by rw [← hW1]; exact stpA (Below.refl _ _) _)
            have HX1 : Hid (W1.heap[wr.heap.size]? = some (.cells #[.string x2, .string y2, .string z2] 41 (0, 0))) := Lib.hid (by rw [← hW1]; exact heap_alloc_new wr _)
            have k10 := cellV W1 _ 0 _ _ _ HX1.out
            have k11 := cellV W1 _ 1 _ _ _ HX1.out
            have g10 := freeV W1 _ 0 _ _ HX1.out
            have g11 := freeV W1 _ 1 _ _ HX1.out
            obtain ⟨p1, h1⟩ : ∃ p, decide (x2.data.toList = []) = p := ⟨_, rfl⟩
            obtain ⟨p2, h2⟩ : ∃ p, decide (x2.data.toList = ofXml) = p := ⟨_, rfl⟩
            have f1 := emp_lit x2 p1 h1
            have f2 := eq_lit x2 ofXml p2 h2
            unfold ofXml at f2
            have HNX : Hid (∀ b : AB, abVal b = bareA SL a → (L ++ [b]).map abVal = ownD o.data.toList nd ++ (numD 0 SL ++ (nd.attrs.take (j + 1)).map (bareA SL))) := Lib.hid fun b hb => by
              rw [List.map_append, hL, List.take_succ_eq_append_getElem hjl, ha, List.map_append, List.append_assoc, List.append_assoc]
              rw [List.map_cons, List.map_nil, hb]
              rfl
            subst hA
            cases p1 with
            | true =>
              have HAB : Hid (abVal ⟨⟨#[]⟩, y2, z2⟩ = bareA SL a) := Lib.hid (by unfold bareA abVal; rw [if_pos (by rw [← hx]; exact of_decide_eq_true h1)]; dsimp only; rw [hy, hz])
              have HX2 : Hid ((W1.setCell ⟨wr.heap.size, 0, none⟩ (.string ⟨#[]⟩)).heap[wr.heap.size]? = some (.cells #[.string ⟨#[]⟩, .string y2, .string z2] 41 (0, 0))) := Lib.hid (heap_setCell_same W1 wr.heap.size 0 _ _ (.string ⟨#[]⟩) HX1.out)
              have HB2 : Hid (Below wr.heap.size wr (W1.setCell ⟨wr.heap.size, 0, none⟩ (.string ⟨#[]⟩))) := Lib.hid (HB1.out.setCell (p := ⟨wr.heap.size, 0, none⟩) (Nat.le_refl _) _)
              clear hst hL hbW hx hy hz ha hea h1 h2 hjl hbB
              go_wp2_with (first
                | (refine wpList_store_row rfl _ _ _ rfl wr.heap.size #[.string x2, .string y2, .string z2] rfl rfl 41 #[.string ⟨#[]⟩, .string ⟨#[]⟩, .string ⟨#[]⟩] (heap_alloc_new _ _) sizeAt rfl (by simp [Value.oneCell']) ?_; rw [World.setRow_alloc_new, hW1])
                | (refine wpList_load_row rfl _ _ rfl wr.heap.size rfl 41 #[.string ⟨#[]⟩, .string y2, .string z2] (0, 0) _ HX2.out Tryz.underlying41 rfl sizeAt ?_)
                | (at_builtin; refine wpList_append_own_at _ rfl (.tmp 68) (.tmp 70) 37 rfl (w.heap.size + 2) 41 i0 (.agg #[.string ⟨#[]⟩, .string ⟨#[]⟩, .string ⟨#[]⟩]) 3 48 Tryz.underlying37 HI.out HZ0.out HZ1.out HZ2.out rfl (by decide) _ L.length _ rfl (HST.out.on (stpA HB2.out _)).own ⟨W1.heap.size, 0, none⟩ 1 1 [.string ⟨#[]⟩, .string y2, .string z2] rfl rfl (new_at (W1.setCell ⟨wr.heap.size, 0, none⟩ (.string ⟨#[]⟩)) [.string ⟨#[]⟩, .string y2, .string z2] 41 W1.heap.size (by rw [World.size_setCell])) (by simp [Value.oneCell']) (by have := HLB.out; unfold maxLen; omega) (by have := HLB.out; omega) (by have := HST.out.sz; have := (HB2.out).size; rw [World.size_alloc]; omega) ?_; intro v5 w5 hown5 hgr5 _ hat5; obtain ⟨A5, c5, rfl⟩ := own_form2 hown5; have HST5 := Lib.hid (HST.out.snoc (stpA HB2.out _) ⟨⟨#[]⟩, y2, z2⟩ hown5 hgr5 hat5); clear hown5 hgr5 hat5)
                | fail)
              go_roundg (gk - 1)
              case measure => omega
              case rel => exact ⟨j + 1, L ++ [⟨⟨#[]⟩, y2, z2⟩], A5, c5, by omega, by go_num, by rw [List.length_append]; rfl, HNX.out _ HAB.out, HST5.out⟩
            | false =>
              cases p2 with
              | true =>
                obtain ⟨u, hu⟩ : ∃ u, (⟨#[120, 109, 108, 58]⟩ : ByteArray) ++ y2 = u := ⟨_, rfl⟩
                have l1 : ¬ 9223372036854775807 < 4 + y2.size := by omega
                have HAB : Hid (abVal ⟨⟨#[]⟩, u, z2⟩ = bareA SL a) := Lib.hid (by
                  unfold bareA abVal
                  rw [if_neg (by rw [← hx]; exact of_decide_eq_false h1), if_pos (by rw [← hx]; exact of_decide_eq_true h2)]
                  dsimp only
                  rw [← hu, ba_app2, hy, hz]
                  rfl)
                have HX2 : Hid ((W1.setCell ⟨wr.heap.size, 1, none⟩ (.string u)).heap[wr.heap.size]? = some (.cells #[.string x2, .string u, .string z2] 41 (0, 0))) := Lib.hid (heap_setCell_same W1 wr.heap.size 1 _ _ (.string u) HX1.out)
                have k20 := cellV _ _ 0 _ _ _ HX2.out
                have g20 := freeV _ _ 0 _ _ HX2.out
                have HX3 : Hid (((W1.setCell ⟨wr.heap.size, 1, none⟩ (.string u)).setCell ⟨wr.heap.size, 0, none⟩ (.string ⟨#[]⟩)).heap[wr.heap.size]? = some (.cells #[.string ⟨#[]⟩, .string u, .string z2] 41 (0, 0))) := Lib.hid (heap_setCell_same (W1.setCell ⟨wr.heap.size, 1, none⟩ (.string u)) wr.heap.size 0 _ _ (.string ⟨#[]⟩) HX2.out)
                have HB2 : Hid (Below wr.heap.size wr ((W1.setCell ⟨wr.heap.size, 1, none⟩ (.string u)).setCell ⟨wr.heap.size, 0, none⟩ (.string ⟨#[]⟩))) := Lib.hid ((HB1.out.setCell (p := ⟨wr.heap.size, 1, none⟩) (Nat.le_refl _) _).setCell (p := ⟨wr.heap.size, 0, none⟩) (Nat.le_refl _) _)
                clear hst hL hbW hx hy hz ha hea h1 h2 hjl hbB
                go_wp2_with (first
                  | (refine wpList_store_row rfl _ _ _ rfl wr.heap.size #[.string x2, .string y2, .string z2] rfl rfl 41 #[.string ⟨#[]⟩, .string ⟨#[]⟩, .string ⟨#[]⟩] (heap_alloc_new _ _) sizeAt rfl (by simp [Value.oneCell']) ?_; rw [World.setRow_alloc_new, hW1])
                  | (refine wpList_load_row rfl _ _ rfl wr.heap.size rfl 41 #[.string ⟨#[]⟩, .string u, .string z2] (0, 0) _ HX3.out Tryz.underlying41 rfl sizeAt ?_)
                  | (at_builtin; refine wpList_append_own_at _ rfl (.tmp 68) (.tmp 70) 37 rfl (w.heap.size + 2) 41 i0 (.agg #[.string ⟨#[]⟩, .string ⟨#[]⟩, .string ⟨#[]⟩]) 3 48 Tryz.underlying37 HI.out HZ0.out HZ1.out HZ2.out rfl (by decide) _ L.length _ rfl (HST.out.on (stpA HB2.out _)).own ⟨W1.heap.size, 0, none⟩ 1 1 [.string ⟨#[]⟩, .string u, .string z2] rfl rfl (new_at ((W1.setCell ⟨wr.heap.size, 1, none⟩ (.string u)).setCell ⟨wr.heap.size, 0, none⟩ (.string ⟨#[]⟩)) [.string ⟨#[]⟩, .string u, .string z2] 41 W1.heap.size (by rw [World.size_setCell, World.size_setCell])) (by simp [Value.oneCell']) (by have := HLB.out; unfold maxLen; omega) (by have := HLB.out; omega) (by have := HST.out.sz; have := (HB2.out).size; rw [World.size_alloc]; omega) ?_; intro v5 w5 hown5 hgr5 _ hat5; obtain ⟨A5, c5, rfl⟩ := own_form2 hown5; have HST5 := Lib.hid (HST.out.snoc (stpA HB2.out _) ⟨⟨#[]⟩, u, z2⟩ hown5 hgr5 hat5); clear hown5 hgr5 hat5)
                  | fail)
                go_roundg (gk - 1)
                case measure => omega
                case rel => exact ⟨j + 1, L ++ [⟨⟨#[]⟩, u, z2⟩], A5, c5, by omega, by go_num, by rw [List.length_append]; rfl, HNX.out _ HAB.out, HST5.out⟩
              | false =>
                have hmem : x2.data.toList ∈ S.map (·.data.toList) := by
                  rw [HSS.out, ← HSE.out, hx]
                  have := (spacesL_mem nd.attrs []).2.1 a (by rw [← ha]; exact List.getElem_mem hjl)
                  rw [← hx] at this ⊢
                  exact this (of_decide_eq_false h1) (of_decide_eq_false h2)
                obtain ⟨k, hk⟩ : ∃ k, (S.map (·.data.toList)).idxOf x2.data.toList = k := ⟨_, rfl⟩
                have hkS : k < S.length := by
                  have := List.idxOf_lt_length_of_mem hmem
                  rw [hk, List.length_map] at this
                  exact this
                have hk6 : k ≤ 1000000 := by have := HSL.out; omega
                obtain ⟨t, ht, hts⟩ := pref_ba k hk6
                have HIX : Hid (∀ W, Below wr.heap.size wr W → Calls Tryz.prog 51 #[.slice AS S.length cS, .string x2] W fun e w' => e = .returned (.int .i64 (k : Int)) ∧ Below W.heap.size W w') := Lib.hid fun W hW => idx11 AS S.length cS bS S W (hst.on hW).sp rfl (by have := HSL.out; omega) x2 k hmem hk
                have HP : Hid (∀ W, Below wr.heap.size wr W → Calls Tryz.prog 50 #[.int .i64 k] W fun e w' => e = .returned (.string t) ∧ Below W.heap.size W w') := Lib.hid fun W hW => prefix11 k hk6 t ht W (HT.out.to (hbW.trans (hW.mono hbW.size)))
                have l1 : ¬ 9223372036854775807 < t.size + 1 := by omega
                have l2 : ¬ 9223372036854775807 < (t ++ ⟨#[58]⟩).size + y2.size := by
                  have : (t ++ (⟨#[58]⟩ : ByteArray)).size = t.size + 1 := by rw [ByteArray.size_append]; rfl
                  omega
                obtain ⟨u1, hu1⟩ : ∃ u1, t ++ (⟨#[58]⟩ : ByteArray) = u1 := ⟨_, rfl⟩
                rw [hu1] at l2
                obtain ⟨u, hu⟩ : ∃ u, u1 ++ y2 = u := ⟨_, rfl⟩
                have HAB : Hid (abVal ⟨⟨#[]⟩, u, z2⟩ = bareA SL a) := Lib.hid (by
                  unfold bareA abVal
                  rw [if_neg (by rw [← hx]; exact of_decide_eq_false h1), if_neg (by rw [← hx]; exact of_decide_eq_false h2)]
                  dsimp only
                  rw [← hu, ba_app2, ← hu1, ba_app2, ht, hy, hz, ← HSS.out, ← hx, hk, List.append_assoc]
                  rfl)
                clear hst hL hbW hx hy hz ha hea h1 h2 hjl hbB hmem hk ht
                go_wp2_with (first
                  | (refine wpList_store_row rfl _ _ _ rfl wr.heap.size #[.string x2, .string y2, .string z2] rfl rfl 41 #[.string ⟨#[]⟩, .string ⟨#[]⟩, .string ⟨#[]⟩] (heap_alloc_new _ _) sizeAt rfl (by simp [Value.oneCell']) ?_; rw [World.setRow_alloc_new, hW1])
                  | fail)
                clear q0 q1 q2 k10 k11 g10 g11
                refine wp_region_noPanic ?_
                refine wp_region_Z (fun W => W.cell? ⟨wr.heap.size, 0, none⟩ = some (.string x2) ∧ W.cell? ⟨wr.heap.size, 1, none⟩ = some (.string y2)) 10 (by kernel_rfl) ?_
                have hS0 : W1.drew.cell? ⟨wr.heap.size, 0, none⟩ = some (.string x2) ∧ W1.drew.cell? ⟨wr.heap.size, 1, none⟩ = some (.string y2) := ⟨cellV W1 _ 0 _ _ _ HX1.out, cellV W1 _ 1 _ _ _ HX1.out⟩
                refine takeZ (i := 0) (v := .slice AS S.length cS) rfl (by kernel_rfl) (by kernel_rfl) (by kernel_rfl) (by kernel_rfl) (fun _ _ _ h => h) (Or.inl ⟨by rfl, ?_⟩) hS0 ?_
                · intro w' hSw; (try dsimp only at hSw); go_simp
                try simp only [Act.put, List.setIfInBounds_toArray, List.set_cons_zero, List.set_cons_succ]
                refine takeZ (i := 1) (v := .pointer (some ⟨wr.heap.size, 0, none⟩)) rfl (by kernel_rfl) (by kernel_rfl) (by kernel_rfl) (by kernel_rfl) (fun _ _ _ h => h) (Or.inl ⟨by rfl, ?_⟩) hS0 ?_
                · intro w' hSw; (try dsimp only at hSw); go_simp
                try simp only [Act.put, List.setIfInBounds_toArray, List.set_cons_zero, List.set_cons_succ]
                refine takeZ (i := 2) (v := .string x2) rfl (by kernel_rfl) (by kernel_rfl) (by kernel_rfl) (by kernel_rfl) (fun _ _ _ h => h) (Or.inl ⟨by rfl, ?_⟩) hS0 ?_
                · intro w' hSw; (try dsimp only at hSw); go_simp
                try simp only [Act.put, List.setIfInBounds_toArray, List.set_cons_zero, List.set_cons_succ]
                refine takeZ (i := 6) (v := .pointer (some ⟨wr.heap.size, 1, none⟩)) rfl (by kernel_rfl) (by kernel_rfl) (by kernel_rfl) (by kernel_rfl) (fun _ _ _ h => h) (Or.inl ⟨by rfl, ?_⟩) hS0 ?_
                · intro w' hSw; (try dsimp only at hSw); go_simp
                try simp only [Act.put, List.setIfInBounds_toArray, List.set_cons_zero, List.set_cons_succ]
                refine takeZ (i := 7) (v := .string y2) rfl (by kernel_rfl) (by kernel_rfl) (by kernel_rfl) (by kernel_rfl) (fun _ _ _ h => h) (Or.inl ⟨by rfl, ?_⟩) hS0 ?_
                · intro w' hSw; (try dsimp only at hSw); go_simp
                try simp only [Act.put, List.setIfInBounds_toArray, List.set_cons_zero, List.set_cons_succ]
                refine stepZ (i := 3) (by kernel_rfl) rfl (fun K hK => ?_)
                go_simp
                go_at_call 51; (with_reducible refine (HIX.out W1.drew HB1.out.drew).mono ?_); rintro e3 w3 ⟨rfl, hb3⟩; have HB3 : Hid (Below wr.heap.size wr w3) := Lib.hid (HB1.out.drew.trans (hb3.mono HB1.out.drew.size)); have HX3 : Hid (w3.heap[wr.heap.size]? = some (.cells #[.string x2, .string y2, .string z2] 41 (0, 0))) := Lib.hid (kept_heap (a := W1.drew) HX1.out hb3); clear hb3
                have hS3 : w3.cell? ⟨wr.heap.size, 0, none⟩ = some (.string x2) ∧ w3.cell? ⟨wr.heap.size, 1, none⟩ = some (.string y2) := ⟨cellV w3 _ 0 _ _ _ HX3.out, cellV w3 _ 1 _ _ _ HX3.out⟩
                go_wp2_with fail
                refine hK.out _ _ (fun _ => hS3) (fun _ => ?_)
                clear hK K hS0
                try simp only [Act.put, List.setIfInBounds_toArray, List.set_cons_zero, List.set_cons_succ]
                refine stepZ (i := 4) (by kernel_rfl) rfl (fun K hK => ?_)
                go_simp
                go_at_call 50; (with_reducible refine (HP.out w3 HB3.out).mono ?_); rintro e4 w4 ⟨rfl, hb4⟩; have HB4 : Hid (Below wr.heap.size wr w4) := Lib.hid (HB3.out.trans (hb4.mono HB3.out.size)); have HX4 : Hid (w4.heap[wr.heap.size]? = some (.cells #[.string x2, .string y2, .string z2] 41 (0, 0))) := Lib.hid (kept_heap HX3.out hb4); clear hb4
                have hS4 : w4.cell? ⟨wr.heap.size, 0, none⟩ = some (.string x2) ∧ w4.cell? ⟨wr.heap.size, 1, none⟩ = some (.string y2) := ⟨cellV w4 _ 0 _ _ _ HX4.out, cellV w4 _ 1 _ _ _ HX4.out⟩
                go_wp2_with fail
                refine hK.out _ _ (fun _ => hS4) (fun _ => ?_)
                clear hK K hS3
                try simp only [Act.put, List.setIfInBounds_toArray, List.set_cons_zero, List.set_cons_succ]
                refine takeZ (i := 5) (v := .string u1) rfl (by kernel_rfl) (by kernel_rfl) (by kernel_rfl) (by kernel_rfl) (fun _ _ _ h => h) (Or.inl ⟨by rfl, ?_⟩) hS4 ?_
                · intro w' hSw; (try dsimp only at hSw); go_simp
                try simp only [Act.put, List.setIfInBounds_toArray, List.set_cons_zero, List.set_cons_succ]
                refine takeZ (i := 8) (v := .string u) rfl (by kernel_rfl) (by kernel_rfl) (by kernel_rfl) (by kernel_rfl) (fun _ _ _ h => h) (Or.inl ⟨by rfl, ?_⟩) hS4 ?_
                · intro w' hSw; (try dsimp only at hSw); go_simp
                try simp only [Act.put, List.setIfInBounds_toArray, List.set_cons_zero, List.set_cons_succ]
                refine takeZ (i := 9) (v := .pointer (some ⟨wr.heap.size, 1, none⟩)) rfl (by kernel_rfl) (by kernel_rfl) (by kernel_rfl) (by kernel_rfl) (fun _ _ _ h => h) (Or.inl ⟨by rfl, ?_⟩) hS4 ?_
                · intro w' hSw; (try dsimp only at hSw); go_simp
                try simp only [Act.put, List.setIfInBounds_toArray, List.set_cons_zero, List.set_cons_succ]
                refine stepZ (i := 10) (by kernel_rfl) rfl (fun K hK => ?_)
                have k41 := hS4.2
                have g41 := freeV w4 _ 1 _ _ HX4.out
                go_simp
                refine hK.out _ _ (fun h => absurd rfl h) (fun _ => ?_)
                clear hK K k41 g41
                try simp only [Act.put, List.setIfInBounds_toArray, List.set_cons_zero, List.set_cons_succ]
                refine doneZ (by kernel_rfl) ?_ _
                refine NoPanic.normal ?_
                have HX5 : Hid ((w4.setCell ⟨wr.heap.size, 1, none⟩ (.string u)).heap[wr.heap.size]? = some (.cells #[.string x2, .string u, .string z2] 41 (0, 0))) := Lib.hid (heap_setCell_same w4 wr.heap.size 1 _ _ (.string u) HX4.out)
                have k50 := cellV _ _ 0 _ _ _ HX5.out
                have g50 := freeV _ _ 0 _ _ HX5.out
                have HX6 : Hid (((w4.setCell ⟨wr.heap.size, 1, none⟩ (.string u)).setCell ⟨wr.heap.size, 0, none⟩ (.string ⟨#[]⟩)).heap[wr.heap.size]? = some (.cells #[.string ⟨#[]⟩, .string u, .string z2] 41 (0, 0))) := Lib.hid (heap_setCell_same (w4.setCell ⟨wr.heap.size, 1, none⟩ (.string u)) wr.heap.size 0 _ _ (.string ⟨#[]⟩) HX5.out)
                have HB2 : Hid (Below wr.heap.size wr ((w4.setCell ⟨wr.heap.size, 1, none⟩ (.string u)).setCell ⟨wr.heap.size, 0, none⟩ (.string ⟨#[]⟩))) := Lib.hid ((HB4.out.setCell (p := ⟨wr.heap.size, 1, none⟩) (Nat.le_refl _) _).setCell (p := ⟨wr.heap.size, 0, none⟩) (Nat.le_refl _) _)
                clear hS4
                go_wp2_with (first
                  | (refine wpList_load_row rfl _ _ rfl wr.heap.size rfl 41 #[.string ⟨#[]⟩, .string u, .string z2] (0, 0) _ HX6.out Tryz.underlying41 rfl sizeAt ?_)
                  | (at_builtin; refine wpList_append_own_at _ rfl (.tmp 68) (.tmp 70) 37 rfl (w.heap.size + 2) 41 i0 (.agg #[.string ⟨#[]⟩, .string ⟨#[]⟩, .string ⟨#[]⟩]) 3 48 Tryz.underlying37 HI.out HZ0.out HZ1.out HZ2.out rfl (by decide) _ L.length _ rfl (HST.out.on (stpA HB2.out _)).own ⟨w4.heap.size, 0, none⟩ 1 1 [.string ⟨#[]⟩, .string u, .string z2] rfl rfl (new_at ((w4.setCell ⟨wr.heap.size, 1, none⟩ (.string u)).setCell ⟨wr.heap.size, 0, none⟩ (.string ⟨#[]⟩)) [.string ⟨#[]⟩, .string u, .string z2] 41 w4.heap.size (by rw [World.size_setCell, World.size_setCell])) (by simp [Value.oneCell']) (by have := HLB.out; unfold maxLen; omega) (by have := HLB.out; omega) (by have := HST.out.sz; have := (HB2.out).size; rw [World.size_alloc]; omega) ?_; intro v5 w5 hown5 hgr5 _ hat5; obtain ⟨A5, c5, rfl⟩ := own_form2 hown5; have HST5 := Lib.hid (HST.out.snoc (stpA HB2.out _) ⟨⟨#[]⟩, u, z2⟩ hown5 hgr5 hat5); clear hown5 hgr5 hat5)
                  | fail)
                go_roundg (gk - 1)
                case measure => omega
                case rel => exact ⟨j + 1, L ++ [⟨⟨#[]⟩, u, z2⟩], A5, c5, by omega, by go_num, by rw [List.length_append]; rfl, HNX.out _ HAB.out, HST5.out⟩
          · obtain rfl : j = n := by omega
            have hjj : ¬ ((j : Int) < (j : Int)) := by omega
            have HBL : Hid (L.map abVal = bareL o.data.toList nd) := Lib.hid (by
              rw [hL, ← HNL.out, List.take_length]
              unfold bareL
              rw [HSE.out])
            have HN1 : Hid (wr.heap[w.heap.size]? = some (.cells #[.int .u8 1, .string x, .string y, .slice A j c, .string z, .int .i64 m0] 39 (0, 0))) := Lib.hid ((hst.below.block w.heap.size (by omega)).trans HN0.out)
            have HR1 : Hid (wr.heap[w.heap.size + 1]? = some (.cells #[.int .u8 0, .string ⟨#[]⟩, .string ⟨#[]⟩, .slice none 0 0, .string ⟨#[]⟩, .int .i64 0] 39 (0, 0))) := Lib.hid ((hst.below.block (w.heap.size + 1) (by omega)).trans HR0.out)
            have HN2 : Hid ((wr.setCell ⟨w.heap.size, 1, none⟩ (.string ⟨#[]⟩)).heap[w.heap.size]? = some (.cells #[.int .u8 1, .string ⟨#[]⟩, .string y, .slice A j c, .string z, .int .i64 m0] 39 (0, 0))) := Lib.hid (heap_setCell_same wr w.heap.size 1 _ _ (.string ⟨#[]⟩) HN1.out)
            have HN3 : Hid (((wr.setCell ⟨w.heap.size, 1, none⟩ (.string ⟨#[]⟩)).setCell ⟨w.heap.size, 3, none⟩ (.slice A1 L.length c1)).heap[w.heap.size]? = some (.cells #[.int .u8 1, .string ⟨#[]⟩, .string y, .slice A1 L.length c1, .string z, .int .i64 m0] 39 (0, 0))) := Lib.hid (heap_setCell_same (wr.setCell ⟨w.heap.size, 1, none⟩ (.string ⟨#[]⟩)) w.heap.size 3 _ _ (.slice A1 L.length c1) HN2.out)
            have HR3 : Hid (((wr.setCell ⟨w.heap.size, 1, none⟩ (.string ⟨#[]⟩)).setCell ⟨w.heap.size, 3, none⟩ (.slice A1 L.length c1)).heap[w.heap.size + 1]? = some (.cells #[.int .u8 0, .string ⟨#[]⟩, .string ⟨#[]⟩, .slice none 0 0, .string ⟨#[]⟩, .int .i64 0] 39 (0, 0))) := Lib.hid ((set_other _ _ _ _ _ (by omega)).trans ((set_other _ _ _ _ _ (by omega)).trans HR1.out))
            have k1 := cellV wr _ 1 _ _ _ HN1.out
            have g1 := freeV wr _ 1 _ _ HN1.out
            have k3 := cellV _ _ 3 _ _ _ HN2.out
            have g3 := freeV _ _ 3 _ _ HN2.out
            clear hst hL hbW
            go_wp2_with (first
              | (refine wpList_load_row rfl _ _ rfl w.heap.size rfl 39 #[.int .u8 1, .string ⟨#[]⟩, .string y, .slice A1 L.length c1, .string z, .int .i64 m0] (0, 0) _ HN3.out Tryz.underlying39 rfl sizeNd ?_)
              | (refine wpList_store_row rfl _ _ _ rfl (w.heap.size + 1) #[.int .u8 1, .string ⟨#[]⟩, .string y, .slice A1 L.length c1, .string z, .int .i64 m0] rfl rfl 39 #[.int .u8 0, .string ⟨#[]⟩, .string ⟨#[]⟩, .slice none 0 0, .string ⟨#[]⟩, .int .i64 0] HR3.out sizeNd rfl (by simp [Value.oneCell']) ?_)
              | fail)
            (try simp only [Exit.inBlock, Exit.then, Exit.noGoto])
            exact bodyPost_ret (v := .agg #[.int .u8 1, .string ⟨#[]⟩, .string y, .slice A1 L.length c1, .string z, .int .i64 m0]) (results_cell_row rfl _ _ _ _ _ _ _ rfl (setRow_heap _ _ _ #[.int .u8 1, .string ⟨#[]⟩, .string y, .slice A1 L.length c1, .string z, .int .i64 m0] _ _ HR3.out) Tryz.underlying39 rfl sizeNd) rfl
              (bare_end (n := j) HST.out HBL.out HB0.out m0 HMM.out _ _ _)
  | false =>
    have HST0 : Hid (BaSt (w.heap.size + 2) 0 W0 [] (.slice none 0 0) [] (.slice none 0 0) W0) := Lib.hid (BaSt.nil _ _ (by rw [HS0.out]; exact Nat.le_refl _))
    have HOD : Hid (ownD o.data.toList nd = [⟨[], xmlns5, x.data.toList⟩]) := Lib.hid (by unfold ownD; rw [if_neg (fun e => of_decide_eq_false HOQ.out (HXS.out.trans e)), HXS.out])
    have HLB : Hid (([] : List AB).length ≤ 5000) := Lib.hid (Nat.zero_le _)
    go_enter Tryz.func27, Tryz.ntmps27
    go_wp2_with (first
      | (rw [hW0])
      | (at_builtin; refine wpList_append_own_at _ rfl (.tmp 15) (.tmp 19) 37 rfl (w.heap.size + 2) 41 i0 (.agg #[.string ⟨#[]⟩, .string ⟨#[]⟩, .string ⟨#[]⟩]) 3 48 Tryz.underlying37 HI.out HZ0.out HZ1.out HZ2.out rfl (by decide) _ 0 _ rfl (HST0.out.on (stpA (Below.refl W0.heap.size W0) _)).own ⟨W0.heap.size, 0, none⟩ 1 1 [.string ⟨#[]⟩, .string ⟨#[120, 109, 108, 110, 115]⟩, .string x] rfl rfl (new_at W0 [.string ⟨#[]⟩, .string ⟨#[120, 109, 108, 110, 115]⟩, .string x] 41 _ rfl) (by simp [Value.oneCell']) (by have := HLB.out; unfold maxLen; omega) (by have := HLB.out; omega) (by have := HST0.out.sz; have := ((Below.refl W0.heap.size W0)).size; rw [World.size_alloc]; omega) ?_; intro v5 w5 hown5 hgr5 _ hat5; obtain ⟨A5, c5, rfl⟩ := own_form2 hown5; have HST5 := Lib.hid (HST0.out.snoc (stpA (Below.refl W0.heap.size W0) _) ⟨⟨#[]⟩, ⟨#[120, 109, 108, 110, 115]⟩, x⟩ hown5 hgr5 hat5); have HN5 := Lib.hid ((HST5.out.below.block w.heap.size (by omega)).trans HN0.out); have k53 := cellV w5 _ 3 _ _ _ HN5.out; clear hown5 hgr5 hat5)
      | (go_at_call 49; (with_reducible refine (HNU.out w5 (HB0.out.trans (HST5.out.below.mono (by omega)))).mono ?_); rintro e1 w1 ⟨AS, cS, S, rfl, hS, hoS, hb1⟩; have HS1 := Lib.hid hS; have HST1 := Lib.hid (BaSt.first HST5.out.own HST5.out.sz HST5.out.below hoS hb1); clear hS hoS hb1)
      | fail)
    have HSL : Hid (S.length ≤ 1000) := Lib.hid (by have h1 := spacesL_len nd.attrs []; rw [← HS1.out, List.length_map] at h1; have := HLA.out; rw [List.length_nil] at h1; omega)
    have bSl : (S.length : Int) ≤ 1000 := by have := HSL.out; omega
    obtain ⟨SL, hSL⟩ : ∃ SL, spacesL [] nd.attrs = SL := ⟨_, rfl⟩
    have HSS : Hid (S.map (·.data.toList) = SL) := Lib.hid (by rw [HS1.out, hSL])
    have HSE := Lib.hid hSL
    obtain ⟨bS, hbS⟩ : ∃ bS, w5.heap.size = bS := ⟨_, rfl⟩
    rw [hbS] at HST1
    clear hSL hbS
    go_loopg [5, 26] S.length (fun gg x5 i wr => ∃ (j : Nat) (L : List AB) (A1 : Option Addr) (c1 : Nat), j + gg = S.length ∧ i = .int .i64 j ∧ x5 = .slice A1 L.length c1 ∧ L.map abVal = ownD o.data.toList nd ++ numD 0 (SL.take j) ∧ BaSt (w.heap.size + 2) bS W0 L x5 S (.slice AS S.length cS) wr)
    case atStart => exact ⟨0, [⟨⟨#[]⟩, ⟨#[120, 109, 108, 110, 115]⟩, x⟩], _, _, by omega, rfl, rfl, by rw [HOD.out]; rfl, HST1.out⟩
    case round =>
      obtain ⟨j, L, A1, c1, hjg, rfl, rfl, hL, hst⟩ := hrel
      have HST := Lib.hid hst
      have HL := Lib.hid hL
      have HLB : Hid (L.length ≤ 5000) := Lib.hid (by
        have h1 := congrArg List.length hL
        rw [List.length_map, List.length_append, numD_len, List.length_take] at h1
        have := ownD_len o.data.toList nd
        have h2 := congrArg List.length HSS.out
        rw [List.length_map] at h2
        have := HSL.out
        omega)
      by_cases hlt : j < S.length
      · obtain ⟨gs, offs, hA2, hcs⟩ := nu_at hst.sp rfl hlt
        obtain ⟨s, hs⟩ : ∃ s, S[j]'hlt = s := ⟨_, rfl⟩
        rw [hs] at hcs
        have hj6 : j ≤ 1000000 := by have := HSL.out; omega
        obtain ⟨t, ht, hts⟩ := pref_ba j hj6
        have HP : Hid (Calls Tryz.prog 50 #[.int .i64 j] wr fun e w' => e = .returned (.string t) ∧ Below wr.heap.size wr w') := Lib.hid (prefix11 j hj6 t ht wr (HT.out.to (HB0.out.trans (hst.below.mono (by omega)))))
        have l1 : ¬ 9223372036854775807 < 6 + t.size := by omega
        obtain ⟨u, hu⟩ : ∃ u, (⟨#[120, 109, 108, 110, 115, 58]⟩ : ByteArray) ++ t = u := ⟨_, rfl⟩
        have HNX : Hid ((ownD o.data.toList nd ++ numD 0 (SL.take j)) ++ [abVal ⟨⟨#[]⟩, u, s⟩] = ownD o.data.toList nd ++ numD 0 (SL.take (j + 1))) := Lib.hid (by
          have hj2 : j < SL.length := by rw [← HSS.out, List.length_map]; exact hlt
          rw [num_take SL j hj2, List.append_assoc]
          congr 2
          unfold abVal
          dsimp only
          rw [← hu, ba_app2, ht, ← hs]
          congr 1
          have := congrArg (fun l => l[j]?) HSS.out
          simp only [List.getElem?_map, List.getElem?_eq_getElem hlt, List.getElem?_eq_getElem hj2, Option.map_some, Option.some.injEq] at this
          rw [this]
          rfl)
        have bj : (0 : Int) ≤ (j : Int) ∧ (j : Int) < (S.length : Int) := by omega
        have hlt2 : (j : Int) < (S.length : Int) := by omega
        subst hA2
        clear hst hL hs ht
        go_wp2_with (first
          | (go_at_call 50; (with_reducible refine (HP.out).mono ?_); rintro e2 w2 ⟨rfl, hb2⟩; have HB2 := Lib.hid hb2; clear hb2)
          | (at_builtin; refine wpList_append_own_at _ rfl (.tmp 31) (.tmp 37) 37 rfl (w.heap.size + 2) 41 i0 (.agg #[.string ⟨#[]⟩, .string ⟨#[]⟩, .string ⟨#[]⟩]) 3 48 Tryz.underlying37 HI.out HZ0.out HZ1.out HZ2.out rfl (by decide) _ L.length _ rfl (HST.out.on (stpA HB2.out _)).own ⟨w2.heap.size, 0, none⟩ 1 1 [.string ⟨#[]⟩, .string u, .string s] rfl rfl (new_at w2 [.string ⟨#[]⟩, .string u, .string s] 41 _ rfl) (by simp [Value.oneCell']) (by have := HLB.out; unfold maxLen; omega) (by have := HLB.out; omega) (by have := HST.out.sz; have := (HB2.out).size; rw [World.size_alloc]; omega) ?_; intro v5 w5 hown5 hgr5 _ hat5; obtain ⟨A5, c5, rfl⟩ := own_form2 hown5; have HST5 := Lib.hid (HST.out.snoc (stpA HB2.out _) ⟨⟨#[]⟩, u, s⟩ hown5 hgr5 hat5); clear hown5 hgr5 hat5)
          | fail)
        go_roundg (gk - 1)
        case measure => omega
        case rel => exact ⟨j + 1, L ++ [⟨⟨#[]⟩, u, s⟩], A5, c5, by omega, by go_num, by rw [List.length_append]; rfl, by rw [List.map_append, HL.out]; exact HNX.out, HST5.out⟩
      · obtain rfl : j = S.length := by omega
        have hjj : ¬ ((S.length : Int) < (S.length : Int)) := by omega
        have HLE : Hid (L.map abVal = ownD o.data.toList nd ++ (numD 0 SL ++ (nd.attrs.take 0).map (bareA SL))) := Lib.hid (by
          rw [hL, List.take_of_length_le (by rw [← HSS.out, List.length_map]; exact Nat.le_refl _)]
          simp)
        have HNr : Hid (wr.heap[w.heap.size]? = some (.cells #[.int .u8 1, .string x, .string y, .slice A n c, .string z, .int .i64 m0] 39 (0, 0))) := Lib.hid ((hst.below.block w.heap.size (by omega)).trans HN0.out)
        have kr3 := cellV wr _ 3 _ _ _ HNr.out
        have HSTA : Hid (BaSt (w.heap.size + 2) bS W0 L (.slice A1 L.length c1) S (.slice AS S.length cS) wr) := HST
        obtain ⟨wo, hwo⟩ : ∃ wo : World, wo = wr := ⟨_, rfl⟩
        clear hst hL HL HST HLB
        go_wp2_with fail
        go_loopg [5, 43] n (fun gg x5 i wr => ∃ (j : Nat) (L : List AB) (A1 : Option Addr) (c1 : Nat), j + gg = n ∧ i = .int .i64 j ∧ x5 = .slice A1 L.length c1 ∧ L.map abVal = ownD o.data.toList nd ++ (numD 0 SL ++ (nd.attrs.take j).map (bareA SL)) ∧ BaSt (w.heap.size + 2) bS W0 L x5 S (.slice AS S.length cS) wr)
        case atStart => exact ⟨0, L, A1, c1, by omega, rfl, rfl, HLE.out, HSTA.out⟩
        case round =>
          clear HSTA HLE HNr kr3
          obtain ⟨j, L, A1, c1, hjg, rfl, rfl, hL, hst⟩ := hrel
          have HST := Lib.hid hst
          have HL := Lib.hid hL
          have HLB : Hid (L.length ≤ 5000) := Lib.hid (by
            have h1 := congrArg List.length hL
            rw [List.length_map, List.length_append, List.length_append, numD_len, List.length_map, List.length_take] at h1
            have := ownD_len o.data.toList nd
            have h2 := congrArg List.length HSS.out
            rw [List.length_map] at h2
            have := HSL.out
            have := HLA.out
            omega)
          have hbW : Below w.heap.size w wr := HB0.out.trans (hst.below.mono (by omega))
          by_cases hlt : j < n
          · have hjl : j < nd.attrs.length := by rw [HNL.out]; exact hlt
            obtain ⟨b0, off, x2, y2, z2, hA, hbB, hx, hy, hz, q0, q1, q2⟩ := at_at (HRA.out wr hbW) hjl
            have hea := HEA.out _ (List.getElem_mem hjl)
            obtain ⟨a, ha⟩ : ∃ a, nd.attrs[j]'hjl = a := ⟨_, rfl⟩
            rw [ha] at hx hy hz hea
            have hys2 : y2.size ≤ 1000000 := by rw [sz_le hy]; exact hea.2.1
            have bj : (0 : Int) ≤ (j : Int) ∧ (j : Int) < (n : Int) := by omega
            have hlt2 : (j : Int) < (n : Int) := by omega
            obtain ⟨W1, hW1⟩ : ∃ W1, wr.alloc (.cells #[.string x2, .string y2, .string z2] 41) = W1 := ⟨_, rfl⟩
            have HB1 : Hid (Below wr.heap.size wr W1) := Lib.hid (by rw [← hW1]; exact stpA (Below.refl _ _) _)
            have HX1 : Hid (W1.heap[wr.heap.size]? = some (.cells #[.string x2, .string y2, .string z2] 41 (0, 0))) := Lib.hid (by rw [← hW1]; exact heap_alloc_new wr _)
            have k10 := cellV W1 _ 0 _ _ _ HX1.out
            have k11 := cellV W1 _ 1 _ _ _ HX1.out
            have g10 := freeV W1 _ 0 _ _ HX1.out
            have g11 := freeV W1 _ 1 _ _ HX1.out
            obtain ⟨p1, h1⟩ : ∃ p, decide (x2.data.toList = []) = p := ⟨_, rfl⟩
            obtain ⟨p2, h2⟩ : ∃ p, decide (x2.data.toList = ofXml) = p := ⟨_, rfl⟩
            have f1 := emp_lit x2 p1 h1
            have f2 := eq_lit x2 ofXml p2 h2
            unfold ofXml at f2
            have HNX : Hid (∀ b : AB, abVal b = bareA SL a → (L ++ [b]).map abVal = ownD o.data.toList nd ++ (numD 0 SL ++ (nd.attrs.take (j + 1)).map (bareA SL))) := Lib.hid fun b hb => by
              rw [List.map_append, hL, List.take_succ_eq_append_getElem hjl, ha, List.map_append, List.append_assoc, List.append_assoc]
              rw [List.map_cons, List.map_nil, hb]
              rfl
            subst hA
            cases p1 with
            | true =>
              have HAB : Hid (abVal ⟨⟨#[]⟩, y2, z2⟩ = bareA SL a) := Lib.hid (by unfold bareA abVal; rw [if_pos (by rw [← hx]; exact of_decide_eq_true h1)]; dsimp only; rw [hy, hz])
              have HX2 : Hid ((W1.setCell ⟨wr.heap.size, 0, none⟩ (.string ⟨#[]⟩)).heap[wr.heap.size]? = some (.cells #[.string ⟨#[]⟩, .string y2, .string z2] 41 (0, 0))) := Lib.hid (heap_setCell_same W1 wr.heap.size 0 _ _ (.string ⟨#[]⟩) HX1.out)
              have HB2 : Hid (Below wr.heap.size wr (W1.setCell ⟨wr.heap.size, 0, none⟩ (.string ⟨#[]⟩))) := Lib.hid (HB1.out.setCell (p := ⟨wr.heap.size, 0, none⟩) (Nat.le_refl _) _)
              clear hst hL hbW hx hy hz ha hea h1 h2 hjl hbB
              go_wp2_with (first
                | (refine wpList_store_row rfl _ _ _ rfl wr.heap.size #[.string x2, .string y2, .string z2] rfl rfl 41 #[.string ⟨#[]⟩, .string ⟨#[]⟩, .string ⟨#[]⟩] (heap_alloc_new _ _) sizeAt rfl (by simp [Value.oneCell']) ?_; rw [World.setRow_alloc_new, hW1])
                | (refine wpList_load_row rfl _ _ rfl wr.heap.size rfl 41 #[.string ⟨#[]⟩, .string y2, .string z2] (0, 0) _ HX2.out Tryz.underlying41 rfl sizeAt ?_)
                | (at_builtin; refine wpList_append_own_at _ rfl (.tmp 68) (.tmp 70) 37 rfl (w.heap.size + 2) 41 i0 (.agg #[.string ⟨#[]⟩, .string ⟨#[]⟩, .string ⟨#[]⟩]) 3 48 Tryz.underlying37 HI.out HZ0.out HZ1.out HZ2.out rfl (by decide) _ L.length _ rfl (HST.out.on (stpA HB2.out _)).own ⟨W1.heap.size, 0, none⟩ 1 1 [.string ⟨#[]⟩, .string y2, .string z2] rfl rfl (new_at (W1.setCell ⟨wr.heap.size, 0, none⟩ (.string ⟨#[]⟩)) [.string ⟨#[]⟩, .string y2, .string z2] 41 W1.heap.size (by rw [World.size_setCell])) (by simp [Value.oneCell']) (by have := HLB.out; unfold maxLen; omega) (by have := HLB.out; omega) (by have := HST.out.sz; have := (HB2.out).size; rw [World.size_alloc]; omega) ?_; intro v5 w5 hown5 hgr5 _ hat5; obtain ⟨A5, c5, rfl⟩ := own_form2 hown5; have HST5 := Lib.hid (HST.out.snoc (stpA HB2.out _) ⟨⟨#[]⟩, y2, z2⟩ hown5 hgr5 hat5); clear hown5 hgr5 hat5)
                | fail)
              go_roundg (gk - 1)
              case measure => omega
              case rel => exact ⟨j + 1, L ++ [⟨⟨#[]⟩, y2, z2⟩], A5, c5, by omega, by go_num, by rw [List.length_append]; rfl, HNX.out _ HAB.out, HST5.out⟩
            | false =>
              cases p2 with
              | true =>
                obtain ⟨u, hu⟩ : ∃ u, (⟨#[120, 109, 108, 58]⟩ : ByteArray) ++ y2 = u := ⟨_, rfl⟩
                have l1 : ¬ 9223372036854775807 < 4 + y2.size := by omega
                have HAB : Hid (abVal ⟨⟨#[]⟩, u, z2⟩ = bareA SL a) := Lib.hid (by
                  unfold bareA abVal
                  rw [if_neg (by rw [← hx]; exact of_decide_eq_false h1), if_pos (by rw [← hx]; exact of_decide_eq_true h2)]
                  dsimp only
                  rw [← hu, ba_app2, hy, hz]
                  rfl)
                have HX2 : Hid ((W1.setCell ⟨wr.heap.size, 1, none⟩ (.string u)).heap[wr.heap.size]? = some (.cells #[.string x2, .string u, .string z2] 41 (0, 0))) := Lib.hid (heap_setCell_same W1 wr.heap.size 1 _ _ (.string u) HX1.out)
                have k20 := cellV _ _ 0 _ _ _ HX2.out
                have g20 := freeV _ _ 0 _ _ HX2.out
                have HX3 : Hid (((W1.setCell ⟨wr.heap.size, 1, none⟩ (.string u)).setCell ⟨wr.heap.size, 0, none⟩ (.string ⟨#[]⟩)).heap[wr.heap.size]? = some (.cells #[.string ⟨#[]⟩, .string u, .string z2] 41 (0, 0))) := Lib.hid (heap_setCell_same (W1.setCell ⟨wr.heap.size, 1, none⟩ (.string u)) wr.heap.size 0 _ _ (.string ⟨#[]⟩) HX2.out)
                have HB2 : Hid (Below wr.heap.size wr ((W1.setCell ⟨wr.heap.size, 1, none⟩ (.string u)).setCell ⟨wr.heap.size, 0, none⟩ (.string ⟨#[]⟩))) := Lib.hid ((HB1.out.setCell (p := ⟨wr.heap.size, 1, none⟩) (Nat.le_refl _) _).setCell (p := ⟨wr.heap.size, 0, none⟩) (Nat.le_refl _) _)
                clear hst hL hbW hx hy hz ha hea h1 h2 hjl hbB
                go_wp2_with (first
                  | (refine wpList_store_row rfl _ _ _ rfl wr.heap.size #[.string x2, .string y2, .string z2] rfl rfl 41 #[.string ⟨#[]⟩, .string ⟨#[]⟩, .string ⟨#[]⟩] (heap_alloc_new _ _) sizeAt rfl (by simp [Value.oneCell']) ?_; rw [World.setRow_alloc_new, hW1])
                  | (refine wpList_load_row rfl _ _ rfl wr.heap.size rfl 41 #[.string ⟨#[]⟩, .string u, .string z2] (0, 0) _ HX3.out Tryz.underlying41 rfl sizeAt ?_)
                  | (at_builtin; refine wpList_append_own_at _ rfl (.tmp 68) (.tmp 70) 37 rfl (w.heap.size + 2) 41 i0 (.agg #[.string ⟨#[]⟩, .string ⟨#[]⟩, .string ⟨#[]⟩]) 3 48 Tryz.underlying37 HI.out HZ0.out HZ1.out HZ2.out rfl (by decide) _ L.length _ rfl (HST.out.on (stpA HB2.out _)).own ⟨W1.heap.size, 0, none⟩ 1 1 [.string ⟨#[]⟩, .string u, .string z2] rfl rfl (new_at ((W1.setCell ⟨wr.heap.size, 1, none⟩ (.string u)).setCell ⟨wr.heap.size, 0, none⟩ (.string ⟨#[]⟩)) [.string ⟨#[]⟩, .string u, .string z2] 41 W1.heap.size (by rw [World.size_setCell, World.size_setCell])) (by simp [Value.oneCell']) (by have := HLB.out; unfold maxLen; omega) (by have := HLB.out; omega) (by have := HST.out.sz; have := (HB2.out).size; rw [World.size_alloc]; omega) ?_; intro v5 w5 hown5 hgr5 _ hat5; obtain ⟨A5, c5, rfl⟩ := own_form2 hown5; have HST5 := Lib.hid (HST.out.snoc (stpA HB2.out _) ⟨⟨#[]⟩, u, z2⟩ hown5 hgr5 hat5); clear hown5 hgr5 hat5)
                  | fail)
                go_roundg (gk - 1)
                case measure => omega
                case rel => exact ⟨j + 1, L ++ [⟨⟨#[]⟩, u, z2⟩], A5, c5, by omega, by go_num, by rw [List.length_append]; rfl, HNX.out _ HAB.out, HST5.out⟩
              | false =>
                have hmem : x2.data.toList ∈ S.map (·.data.toList) := by
                  rw [HSS.out, ← HSE.out, hx]
                  have := (spacesL_mem nd.attrs []).2.1 a (by rw [← ha]; exact List.getElem_mem hjl)
                  rw [← hx] at this ⊢
                  exact this (of_decide_eq_false h1) (of_decide_eq_false h2)
                obtain ⟨k, hk⟩ : ∃ k, (S.map (·.data.toList)).idxOf x2.data.toList = k := ⟨_, rfl⟩
                have hkS : k < S.length := by
                  have := List.idxOf_lt_length_of_mem hmem
                  rw [hk, List.length_map] at this
                  exact this
                have hk6 : k ≤ 1000000 := by have := HSL.out; omega
                obtain ⟨t, ht, hts⟩ := pref_ba k hk6
                have HIX : Hid (∀ W, Below wr.heap.size wr W → Calls Tryz.prog 51 #[.slice AS S.length cS, .string x2] W fun e w' => e = .returned (.int .i64 (k : Int)) ∧ Below W.heap.size W w') := Lib.hid fun W hW => idx11 AS S.length cS bS S W (hst.on hW).sp rfl (by have := HSL.out; omega) x2 k hmem hk
                have HP : Hid (∀ W, Below wr.heap.size wr W → Calls Tryz.prog 50 #[.int .i64 k] W fun e w' => e = .returned (.string t) ∧ Below W.heap.size W w') := Lib.hid fun W hW => prefix11 k hk6 t ht W (HT.out.to (hbW.trans (hW.mono hbW.size)))
                have l1 : ¬ 9223372036854775807 < t.size + 1 := by omega
                have l2 : ¬ 9223372036854775807 < (t ++ ⟨#[58]⟩).size + y2.size := by
                  have : (t ++ (⟨#[58]⟩ : ByteArray)).size = t.size + 1 := by rw [ByteArray.size_append]; rfl
                  omega
                obtain ⟨u1, hu1⟩ : ∃ u1, t ++ (⟨#[58]⟩ : ByteArray) = u1 := ⟨_, rfl⟩
                rw [hu1] at l2
                obtain ⟨u, hu⟩ : ∃ u, u1 ++ y2 = u := ⟨_, rfl⟩
                have HAB : Hid (abVal ⟨⟨#[]⟩, u, z2⟩ = bareA SL a) := Lib.hid (by
                  unfold bareA abVal
                  rw [if_neg (by rw [← hx]; exact of_decide_eq_false h1), if_neg (by rw [← hx]; exact of_decide_eq_false h2)]
                  dsimp only
                  rw [← hu, ba_app2, ← hu1, ba_app2, ht, hy, hz, ← HSS.out, ← hx, hk, List.append_assoc]
                  rfl)
                clear hst hL hbW hx hy hz ha hea h1 h2 hjl hbB hmem hk ht
                go_wp2_with (first
                  | (refine wpList_store_row rfl _ _ _ rfl wr.heap.size #[.string x2, .string y2, .string z2] rfl rfl 41 #[.string ⟨#[]⟩, .string ⟨#[]⟩, .string ⟨#[]⟩] (heap_alloc_new _ _) sizeAt rfl (by simp [Value.oneCell']) ?_; rw [World.setRow_alloc_new, hW1])
                  | fail)
                clear q0 q1 q2 k10 k11 g10 g11
                refine wp_region_noPanic ?_
                refine wp_region_Z (fun W => W.cell? ⟨wr.heap.size, 0, none⟩ = some (.string x2) ∧ W.cell? ⟨wr.heap.size, 1, none⟩ = some (.string y2)) 10 (by kernel_rfl) ?_
                have hS0 : W1.drew.cell? ⟨wr.heap.size, 0, none⟩ = some (.string x2) ∧ W1.drew.cell? ⟨wr.heap.size, 1, none⟩ = some (.string y2) := ⟨cellV W1 _ 0 _ _ _ HX1.out, cellV W1 _ 1 _ _ _ HX1.out⟩
                refine takeZ (i := 0) (v := .slice AS S.length cS) rfl (by kernel_rfl) (by kernel_rfl) (by kernel_rfl) (by kernel_rfl) (fun _ _ _ h => h) (Or.inl ⟨by rfl, ?_⟩) hS0 ?_
                · intro w' hSw; (try dsimp only at hSw); go_simp
                try simp only [Act.put, List.setIfInBounds_toArray, List.set_cons_zero, List.set_cons_succ]
                refine takeZ (i := 1) (v := .pointer (some ⟨wr.heap.size, 0, none⟩)) rfl (by kernel_rfl) (by kernel_rfl) (by kernel_rfl) (by kernel_rfl) (fun _ _ _ h => h) (Or.inl ⟨by rfl, ?_⟩) hS0 ?_
                · intro w' hSw; (try dsimp only at hSw); go_simp
                try simp only [Act.put, List.setIfInBounds_toArray, List.set_cons_zero, List.set_cons_succ]
                refine takeZ (i := 2) (v := .string x2) rfl (by kernel_rfl) (by kernel_rfl) (by kernel_rfl) (by kernel_rfl) (fun _ _ _ h => h) (Or.inl ⟨by rfl, ?_⟩) hS0 ?_
                · intro w' hSw; (try dsimp only at hSw); go_simp
                try simp only [Act.put, List.setIfInBounds_toArray, List.set_cons_zero, List.set_cons_succ]
                refine takeZ (i := 6) (v := .pointer (some ⟨wr.heap.size, 1, none⟩)) rfl (by kernel_rfl) (by kernel_rfl) (by kernel_rfl) (by kernel_rfl) (fun _ _ _ h => h) (Or.inl ⟨by rfl, ?_⟩) hS0 ?_
                · intro w' hSw; (try dsimp only at hSw); go_simp
                try simp only [Act.put, List.setIfInBounds_toArray, List.set_cons_zero, List.set_cons_succ]
                refine takeZ (i := 7) (v := .string y2) rfl (by kernel_rfl) (by kernel_rfl) (by kernel_rfl) (by kernel_rfl) (fun _ _ _ h => h) (Or.inl ⟨by rfl, ?_⟩) hS0 ?_
                · intro w' hSw; (try dsimp only at hSw); go_simp
                try simp only [Act.put, List.setIfInBounds_toArray, List.set_cons_zero, List.set_cons_succ]
                refine stepZ (i := 3) (by kernel_rfl) rfl (fun K hK => ?_)
                go_simp
                go_at_call 51; (with_reducible refine (HIX.out W1.drew HB1.out.drew).mono ?_); rintro e3 w3 ⟨rfl, hb3⟩; have HB3 : Hid (Below wr.heap.size wr w3) := Lib.hid (HB1.out.drew.trans (hb3.mono HB1.out.drew.size)); have HX3 : Hid (w3.heap[wr.heap.size]? = some (.cells #[.string x2, .string y2, .string z2] 41 (0, 0))) := Lib.hid (kept_heap (a := W1.drew) HX1.out hb3); clear hb3
                have hS3 : w3.cell? ⟨wr.heap.size, 0, none⟩ = some (.string x2) ∧ w3.cell? ⟨wr.heap.size, 1, none⟩ = some (.string y2) := ⟨cellV w3 _ 0 _ _ _ HX3.out, cellV w3 _ 1 _ _ _ HX3.out⟩
                go_wp2_with fail
                refine hK.out _ _ (fun _ => hS3) (fun _ => ?_)
                clear hK K hS0
                try simp only [Act.put, List.setIfInBounds_toArray, List.set_cons_zero, List.set_cons_succ]
                refine stepZ (i := 4) (by kernel_rfl) rfl (fun K hK => ?_)
                go_simp
                go_at_call 50; (with_reducible refine (HP.out w3 HB3.out).mono ?_); rintro e4 w4 ⟨rfl, hb4⟩; have HB4 : Hid (Below wr.heap.size wr w4) := Lib.hid (HB3.out.trans (hb4.mono HB3.out.size)); have HX4 : Hid (w4.heap[wr.heap.size]? = some (.cells #[.string x2, .string y2, .string z2] 41 (0, 0))) := Lib.hid (kept_heap HX3.out hb4); clear hb4
                have hS4 : w4.cell? ⟨wr.heap.size, 0, none⟩ = some (.string x2) ∧ w4.cell? ⟨wr.heap.size, 1, none⟩ = some (.string y2) := ⟨cellV w4 _ 0 _ _ _ HX4.out, cellV w4 _ 1 _ _ _ HX4.out⟩
                go_wp2_with fail
                refine hK.out _ _ (fun _ => hS4) (fun _ => ?_)
                clear hK K hS3
                try simp only [Act.put, List.setIfInBounds_toArray, List.set_cons_zero, List.set_cons_succ]
                refine takeZ (i := 5) (v := .string u1) rfl (by kernel_rfl) (by kernel_rfl) (by kernel_rfl) (by kernel_rfl) (fun _ _ _ h => h) (Or.inl ⟨by rfl, ?_⟩) hS4 ?_
                · intro w' hSw; (try dsimp only at hSw); go_simp
                try simp only [Act.put, List.setIfInBounds_toArray, List.set_cons_zero, List.set_cons_succ]
                refine takeZ (i := 8) (v := .string u) rfl (by kernel_rfl) (by kernel_rfl) (by kernel_rfl) (by kernel_rfl) (fun _ _ _ h => h) (Or.inl ⟨by rfl, ?_⟩) hS4 ?_
                · intro w' hSw; (try dsimp only at hSw); go_simp
                try simp only [Act.put, List.setIfInBounds_toArray, List.set_cons_zero, List.set_cons_succ]
                refine takeZ (i := 9) (v := .pointer (some ⟨wr.heap.size, 1, none⟩)) rfl (by kernel_rfl) (by kernel_rfl) (by kernel_rfl) (by kernel_rfl) (fun _ _ _ h => h) (Or.inl ⟨by rfl, ?_⟩) hS4 ?_
                · intro w' hSw; (try dsimp only at hSw); go_simp
                try simp only [Act.put, List.setIfInBounds_toArray, List.set_cons_zero, List.set_cons_succ]
                refine stepZ (i := 10) (by kernel_rfl) rfl (fun K hK => ?_)
                have k41 := hS4.2
                have g41 := freeV w4 _ 1 _ _ HX4.out
                go_simp
                refine hK.out _ _ (fun h => absurd rfl h) (fun _ => ?_)
                clear hK K k41 g41
                try simp only [Act.put, List.setIfInBounds_toArray, List.set_cons_zero, List.set_cons_succ]
                refine doneZ (by kernel_rfl) ?_ _
                refine NoPanic.normal ?_
                have HX5 : Hid ((w4.setCell ⟨wr.heap.size, 1, none⟩ (.string u)).heap[wr.heap.size]? = some (.cells #[.string x2, .string u, .string z2] 41 (0, 0))) := Lib.hid (heap_setCell_same w4 wr.heap.size 1 _ _ (.string u) HX4.out)
                have k50 := cellV _ _ 0 _ _ _ HX5.out
                have g50 := freeV _ _ 0 _ _ HX5.out
                have HX6 : Hid (((w4.setCell ⟨wr.heap.size, 1, none⟩ (.string u)).setCell ⟨wr.heap.size, 0, none⟩ (.string ⟨#[]⟩)).heap[wr.heap.size]? = some (.cells #[.string ⟨#[]⟩, .string u, .string z2] 41 (0, 0))) := Lib.hid (heap_setCell_same (w4.setCell ⟨wr.heap.size, 1, none⟩ (.string u)) wr.heap.size 0 _ _ (.string ⟨#[]⟩) HX5.out)
                have HB2 : Hid (Below wr.heap.size wr ((w4.setCell ⟨wr.heap.size, 1, none⟩ (.string u)).setCell ⟨wr.heap.size, 0, none⟩ (.string ⟨#[]⟩))) := Lib.hid ((HB4.out.setCell (p := ⟨wr.heap.size, 1, none⟩) (Nat.le_refl _) _).setCell (p := ⟨wr.heap.size, 0, none⟩) (Nat.le_refl _) _)
                clear hS4
                go_wp2_with (first
                  | (refine wpList_load_row rfl _ _ rfl wr.heap.size rfl 41 #[.string ⟨#[]⟩, .string u, .string z2] (0, 0) _ HX6.out Tryz.underlying41 rfl sizeAt ?_)
                  | (at_builtin; refine wpList_append_own_at _ rfl (.tmp 68) (.tmp 70) 37 rfl (w.heap.size + 2) 41 i0 (.agg #[.string ⟨#[]⟩, .string ⟨#[]⟩, .string ⟨#[]⟩]) 3 48 Tryz.underlying37 HI.out HZ0.out HZ1.out HZ2.out rfl (by decide) _ L.length _ rfl (HST.out.on (stpA HB2.out _)).own ⟨w4.heap.size, 0, none⟩ 1 1 [.string ⟨#[]⟩, .string u, .string z2] rfl rfl (new_at ((w4.setCell ⟨wr.heap.size, 1, none⟩ (.string u)).setCell ⟨wr.heap.size, 0, none⟩ (.string ⟨#[]⟩)) [.string ⟨#[]⟩, .string u, .string z2] 41 w4.heap.size (by rw [World.size_setCell, World.size_setCell])) (by simp [Value.oneCell']) (by have := HLB.out; unfold maxLen; omega) (by have := HLB.out; omega) (by have := HST.out.sz; have := (HB2.out).size; rw [World.size_alloc]; omega) ?_; intro v5 w5 hown5 hgr5 _ hat5; obtain ⟨A5, c5, rfl⟩ := own_form2 hown5; have HST5 := Lib.hid (HST.out.snoc (stpA HB2.out _) ⟨⟨#[]⟩, u, z2⟩ hown5 hgr5 hat5); clear hown5 hgr5 hat5)
                  | fail)
                go_roundg (gk - 1)
                case measure => omega
                case rel => exact ⟨j + 1, L ++ [⟨⟨#[]⟩, u, z2⟩], A5, c5, by omega, by go_num, by rw [List.length_append]; rfl, HNX.out _ HAB.out, HST5.out⟩
          · obtain rfl : j = n := by omega
            have hjj : ¬ ((j : Int) < (j : Int)) := by omega
            have HBL : Hid (L.map abVal = bareL o.data.toList nd) := Lib.hid (by
              rw [hL, ← HNL.out, List.take_length]
              unfold bareL
              rw [HSE.out])
            have HN1 : Hid (wr.heap[w.heap.size]? = some (.cells #[.int .u8 1, .string x, .string y, .slice A j c, .string z, .int .i64 m0] 39 (0, 0))) := Lib.hid ((hst.below.block w.heap.size (by omega)).trans HN0.out)
            have HR1 : Hid (wr.heap[w.heap.size + 1]? = some (.cells #[.int .u8 0, .string ⟨#[]⟩, .string ⟨#[]⟩, .slice none 0 0, .string ⟨#[]⟩, .int .i64 0] 39 (0, 0))) := Lib.hid ((hst.below.block (w.heap.size + 1) (by omega)).trans HR0.out)
            have HN2 : Hid ((wr.setCell ⟨w.heap.size, 1, none⟩ (.string ⟨#[]⟩)).heap[w.heap.size]? = some (.cells #[.int .u8 1, .string ⟨#[]⟩, .string y, .slice A j c, .string z, .int .i64 m0] 39 (0, 0))) := Lib.hid (heap_setCell_same wr w.heap.size 1 _ _ (.string ⟨#[]⟩) HN1.out)
            have HN3 : Hid (((wr.setCell ⟨w.heap.size, 1, none⟩ (.string ⟨#[]⟩)).setCell ⟨w.heap.size, 3, none⟩ (.slice A1 L.length c1)).heap[w.heap.size]? = some (.cells #[.int .u8 1, .string ⟨#[]⟩, .string y, .slice A1 L.length c1, .string z, .int .i64 m0] 39 (0, 0))) := Lib.hid (heap_setCell_same (wr.setCell ⟨w.heap.size, 1, none⟩ (.string ⟨#[]⟩)) w.heap.size 3 _ _ (.slice A1 L.length c1) HN2.out)
            have HR3 : Hid (((wr.setCell ⟨w.heap.size, 1, none⟩ (.string ⟨#[]⟩)).setCell ⟨w.heap.size, 3, none⟩ (.slice A1 L.length c1)).heap[w.heap.size + 1]? = some (.cells #[.int .u8 0, .string ⟨#[]⟩, .string ⟨#[]⟩, .slice none 0 0, .string ⟨#[]⟩, .int .i64 0] 39 (0, 0))) := Lib.hid ((set_other _ _ _ _ _ (by omega)).trans ((set_other _ _ _ _ _ (by omega)).trans HR1.out))
            have k1 := cellV wr _ 1 _ _ _ HN1.out
            have g1 := freeV wr _ 1 _ _ HN1.out
            have k3 := cellV _ _ 3 _ _ _ HN2.out
            have g3 := freeV _ _ 3 _ _ HN2.out
            clear hst hL hbW
            go_wp2_with (first
              | (refine wpList_load_row rfl _ _ rfl w.heap.size rfl 39 #[.int .u8 1, .string ⟨#[]⟩, .string y, .slice A1 L.length c1, .string z, .int .i64 m0] (0, 0) _ HN3.out Tryz.underlying39 rfl sizeNd ?_)
              | (refine wpList_store_row rfl _ _ _ rfl (w.heap.size + 1) #[.int .u8 1, .string ⟨#[]⟩, .string y, .slice A1 L.length c1, .string z, .int .i64 m0] rfl rfl 39 #[.int .u8 0, .string ⟨#[]⟩, .string ⟨#[]⟩, .slice none 0 0, .string ⟨#[]⟩, .int .i64 0] HR3.out sizeNd rfl (by simp [Value.oneCell']) ?_)
              | fail)
            (try simp only [Exit.inBlock, Exit.then, Exit.noGoto])
            exact bodyPost_ret (v := .agg #[.int .u8 1, .string ⟨#[]⟩, .string y, .slice A1 L.length c1, .string z, .int .i64 m0]) (results_cell_row rfl _ _ _ _ _ _ _ rfl (setRow_heap _ _ _ #[.int .u8 1, .string ⟨#[]⟩, .string y, .slice A1 L.length c1, .string z, .int .i64 m0] _ _ HR3.out) Tryz.underlying39 rfl sizeNd) rfl
              (bare_end (n := j) HST.out HBL.out HB0.out m0 HMM.out _ _ _)
end Hx
end Go.Proofs.YteobcohjikjalaaGreatDoor
