/-
  Texts of one seat, put together: SraB, SraC, TreB, EscC, EscD, NumT.
-/
import Derived.Test.YteobcohjikjalaaGreatDoorSp16
import Derived.Test.YteobcohjikjalaaGreatDoorSp17
import Derived.Test.YteobcohjikjalaaGreatDoorSp02
import Derived.Test.YteobcohjikjalaaGreatDoorSp15
import Derived.Test.YteobcohjikjalaaGreatDoorSp07
import Derived.Test.YteobcohjikjalaaGreatDoorShelf
import Derived.Lib.ConvBytes
import Derived.Laws.Externs
set_option linter.unusedSimpArgs false
namespace Go.Proofs.YteobcohjikjalaaGreatDoor
open Go.RowKit
namespace Hx
open Lx Tr Tx Nmb Es Ns
set_option maxRecDepth 100000
set_option maxHeartbeats 16000000
set_option linter.unusedVariables false
def stackE (v : List Nd) : List (List At) := (v.map Nd.attrs).reverse
theorem stackE_next {v : List Nd} {j : Nat} (h : j < v.length) : stackE (v.take (j + 1)) = (v[j]'h).attrs :: stackE (v.take j) := by
  unfold stackE
  rw [List.take_succ_eq_append_getElem h, List.map_append, List.reverse_append]
  rfl
theorem lookE_cons {l : List At} {E : List (List At)} {p : List UInt8} : lookE (l :: E) p = match declL l p with
    | some v => (v, true)
    | none => lookE E p := rfl
theorem declL_drop {l : List At} {k : Nat} (p : List UInt8) (h : k < l.length) : declL (l.drop k) p = if decl (l[k]'h).name = some p then some (l[k]'h).value else declL (l.drop (k + 1)) p := by
  rw [List.drop_eq_getElem_cons h, declL]
def RlookTo (E : List (List At)) (p : List UInt8) (w : World) (e : Ending) (w' : World) : Prop := ∃ (u : ByteArray) (q : Bool), e = .returned (.tuple #[.string u, .bool q]) ∧ lookE E p = (u.data.toList, q) ∧ Below w.heap.size w w'
theorem rlook11 (A : Option Addr) (n cp : Nat) (v : List Nd) (p : ByteArray) (w : World) (hr : RdB NdS w A v) (hn : v.length = n) (hm : n ≤ 1000000) (hsz : ∀ x ∈ v, x.attrs.length ≤ 1000000 ∧ ∀ a ∈ x.attrs, a.name.length ≤ 1000000) :
    Calls Tryz.prog 66 #[.slice A n cp, .string p] w (RlookTo (stackE v) p.data.toList w) := by
  have HR := Lib.hid hr
  have HN := Lib.hid hn
  have HM := Lib.hid hm
  have HSZ := Lib.hid hsz
  clear hr hn hsz
  go_enter Tryz.func66, Tryz.ntmps66
  go_wp2_with fail
  go_loopg [6] n (fun gg i wr => gg ≤ n ∧ i = .int .i64 ((gg : Int) - 1) ∧ lookE (stackE v) p.data.toList = lookE (stackE (v.take gg)) p.data.toList ∧ Below w.heap.size w wr)
  case atStart => exact ⟨Nat.le_refl _, by go_num, by rw [← HN.out, List.take_length], Below.refl _ _⟩
  case round =>
    obtain ⟨hgn, rfl, hlk, hbw⟩ := hrel
    obtain ⟨wo, rfl⟩ : ∃ wo : World, wo = wr := ⟨_, rfl⟩
    obtain ⟨g0, rfl⟩ : ∃ g0 : Nat, g0 = gk := ⟨_, rfl⟩
    have hm := HM.out
    have HLK := Lib.hid hlk
    have HBW := Lib.hid hbw
    have HG := Lib.hid hgn
    clear hlk hbw
    cases g0 with
    | succ i =>
      have ei : (((i + 1 : Nat) : Int) - 1) = (i : Int) := by omega
      rw [ei]
      have hlt : i < n := by omega
      have hi1 : i < v.length := by rw [HN.out]; exact hlt
      have bi : (0 : Int) ≤ (i : Int) ∧ (i : Int) < (n : Int) := by omega
      obtain ⟨m, hmv⟩ : ∃ m, (v[i]'hi1).attrs.length = m := ⟨_, rfl⟩
      have hal := (HSZ.out _ (List.getElem_mem hi1)).1
      have bm : (m : Int) ≤ 1000000 := by omega
      have HI1 := Lib.hid hi1
      have HMV : Hid ((v[i]'HI1.out).attrs.length = m) := Lib.hid hmv
      clear hmv hal hgn ei
      go_wp2_with fail
      go_loopg [7] m (fun gg k wr => ∃ j : Nat, j + gg = m ∧ k = .int .i64 j ∧ declL (v[i]'HI1.out).attrs p.data.toList = declL ((v[i]'HI1.out).attrs.drop j) p.data.toList ∧ Below w.heap.size w wr)
      case atStart => exact ⟨0, by omega, rfl, by rw [List.drop_zero], HBW.out⟩
      case round =>
        obtain ⟨j, hjg, rfl, hdl, hb2⟩ := hrel
        have HDL := Lib.hid hdl
        have HB2 := Lib.hid hb2
        have HJG := Lib.hid hjg
        obtain ⟨b0, off, x, y, z, A1, c1, rfl, hbB, hin, d0, d1, d2, d3, d4, d5⟩ := nd_at (HR.out.on hb2) hi1
        rw [HMV.out] at d3
        have HAT := Lib.hid hin.attrs
        clear hdl hjg hin d0 d1 d2 d4 d5
        by_cases hlj : j < m
        · have hj1 : j < (v[i]'HI1.out).attrs.length := by rw [HMV.out]; exact hlj
          have bj : (0 : Int) ≤ (j : Int) ∧ (j : Int) < (m : Int) := by omega
          obtain ⟨b1, of1, x2, y2, z2, rfl, hb1B, hx2, hy2, hz2, e0, e1, e2⟩ := at_at HAT.out hj1
          have hys : y2.size ≤ 1000000 := by
            have := (HSZ.out _ (List.getElem_mem hi1)).2 _ (List.getElem_mem hj1)
            rw [← hy2, ba_l] at this
            exact this
          have hnx := declL_drop p.data.toList hj1
          rw [← hy2, ← hz2] at hnx
          cases hd : decl y2.data.toList with
          | none =>
            rw [hd, if_neg (by intro h; cases h)] at hnx
            have HNX : Hid (declL (v[i]'HI1.out).attrs p.data.toList = declL ((v[i]'HI1.out).attrs.drop (j + 1)) p.data.toList) := Lib.hid (HDL.out.trans hnx)
            have HC : Hid (∀ W, Calls Tryz.prog 67 #[.string y2] W fun e w' => ∃ u : ByteArray, e = .returned (.tuple #[.string u, .bool false]) ∧ ∃ n, w' = W.drewN n) := Lib.hid fun W => (rdecl11 y2 W hys).mono fun e w' h => by
              obtain ⟨u, q, rfl, hq, _, _, hw⟩ := h
              rw [hd] at hq
              subst hq
              exact ⟨u, rfl, hw⟩
            have HLJ := Lib.hid hlj
            clear hd hnx hys hx2 hy2 hz2 hb2 hbB hb1B e0 e2
            go_wp2_with (first
              | (go_at_call 67; (with_reducible refine (HC.out _).mono ?_); rintro e9 w9 ⟨u9, rfl, n9, rfl⟩)
              | fail)
            go_roundg (gk - 1)
            case rel => exact ⟨j + 1, by have := HJG.out; omega, by go_num, HNX.out, bel_drewN HB2.out _⟩
            case measure => have := HJG.out; omega
          | some pp =>
            rw [hd] at hnx
            obtain ⟨u0, rfl⟩ : ∃ u : ByteArray, u.data.toList = pp := ⟨⟨pp.toArray⟩, by simp⟩
            have HC : Hid (∀ W, Calls Tryz.prog 67 #[.string y2] W fun e w' => e = .returned (.tuple #[.string u0, .bool true]) ∧ ∃ n, w' = W.drewN n) := Lib.hid fun W => (rdecl11 y2 W hys).mono fun e w' h => by
              obtain ⟨u, q, rfl, hq, hu, _, hw⟩ := h
              rw [hd] at hq
              subst hq
              rw [ba_x (hu _ hd)]
              exact ⟨rfl, hw⟩
            have HLJ := Lib.hid hlj
            by_cases hp : u0 = p
            · subst hp
              rw [if_pos rfl] at hnx
              have t1 : (u0.toList == u0.toList) = true := by simp
              have HNX : Hid (lookE (stackE v) u0.data.toList = (z2.data.toList, true)) := Lib.hid (by
                rw [HLK.out, stackE_next hi1, lookE_cons, HDL.out, hnx])
              clear hd hnx hys hx2 hy2 hz2 hb2 hbB hb1B e0
              go_wp2_with (first
                | (go_at_call 67; (with_reducible refine (HC.out _).mono ?_); rintro e9 w9 ⟨rfl, n9, rfl⟩)
                | fail)
              go_ret2
              exact ⟨_, _, rfl, HNX.out, bel_drewN HB2.out _⟩
            · rw [if_neg (fun h => hp (ba_x (Option.some.inj h)))] at hnx
              have t1 : (u0.toList == p.toList) = false := by rw [beq_eq_false_iff_ne, ByteArray.toList_eq, ByteArray.toList_eq]; exact fun h => hp (ba_x h)
              have HNX : Hid (declL (v[i]'HI1.out).attrs p.data.toList = declL ((v[i]'HI1.out).attrs.drop (j + 1)) p.data.toList) := Lib.hid (HDL.out.trans hnx)
              clear hd hnx hys hx2 hy2 hz2 hb2 hbB hb1B e0 e2 hp
              go_wp2_with (first
                | (go_at_call 67; (with_reducible refine (HC.out _).mono ?_); rintro e9 w9 ⟨rfl, n9, rfl⟩)
                | fail)
              go_roundg (gk - 1)
              case rel => exact ⟨j + 1, by have := HJG.out; omega, by go_num, HNX.out, bel_drewN HB2.out _⟩
              case measure => have := HJG.out; omega
        · obtain rfl : j = m := by have := HJG.out; omega
          have HNX : Hid (lookE (stackE v) p.data.toList = lookE (stackE (v.take i)) p.data.toList) := Lib.hid (by
            rw [HLK.out, stackE_next hi1, lookE_cons, HDL.out, List.drop_of_length_le (by rw [HMV.out]; exact Nat.le_refl _)]
            rfl)
          clear hb2 hbB
          go_wp2_with fail
          go_roundg i
          case rel => exact ⟨by have := HG.out; omega, by go_num, HNX.out, HB2.out⟩
          case measure => exact Nat.lt_succ_self _
    | zero =>
      have e0 : (((0 : Nat) : Int) - 1) = -1 := rfl
      rw [e0]
      obtain ⟨q2, h2⟩ : ∃ q2, decide (p.data.toList = xml3) = q2 := ⟨_, rfl⟩
      have f2 := eq_lit p xml3 q2 h2
      unfold xml3 at f2
      obtain ⟨q6, h6⟩ : ∃ q6, decide (p.data.toList = []) = q6 := ⟨_, rfl⟩
      have f6 : p.toList.isEmpty = q6 := by
        rw [em_lR, ← h6]
        cases p.data.toList <;> rfl
      have HE : Hid (lookE (stackE v) p.data.toList = if q2 = true then (ofXml, true) else ([], q6)) := Lib.hid (by
        rw [HLK.out, List.take_zero]
        show (if p.data.toList = xml3 then _ else _) = _
        rw [← h2, ← h6]
        by_cases h : p.data.toList = xml3
        · rw [if_pos h, if_pos (decide_eq_true h)]
        · rw [if_neg h, if_neg (by rw [decide_eq_false h]; decide)])
      clear h2 h6 hgn e0
      cases q2 with
      | true =>
        go_wp2_with fail
        go_ret2
        exact ⟨_, _, rfl, HE.out, HBW.out⟩
      | false =>
        go_wp2_with fail
        go_ret2
        exact ⟨_, _, rfl, HE.out, HBW.out⟩
def zAt3 : Array Value := #[.string ⟨#[]⟩, .string ⟨#[]⟩, .string ⟨#[]⟩]
theorem sizeAt3 : (Tryz.prog.info? 41).map (·.size) = some 3 := by kernel_rfl
theorem oneAt3 (x y z : ByteArray) : (#[Value.string x, Value.string y, Value.string z] : Array Value).all (·.oneCell') = true := by simp [Value.oneCell']
def RatrTo (E : List (List At)) (a : AB) (w : World) (e : Ending) (w' : World) : Prop := ∃ (s nm : ByteArray) (q : Bool), e = .returned (.tuple #[.agg #[.string s, .string nm, .string a.z], .bool q]) ∧ atE E (abVal a) = (⟨s.data.toList, nm.data.toList, a.z.data.toList⟩, q) ∧ Below w.heap.size w w'
theorem ratr11 (A : Option Addr) (n cp : Nat) (v : List Nd) (a : AB) (w : World) (hr : RdB NdS w A v) (hn : v.length = n) (hm : n ≤ 1000000) (hsz : ∀ x ∈ v, x.attrs.length ≤ 1000000 ∧ ∀ a ∈ x.attrs, a.name.length ≤ 1000000) (hy : a.y.size ≤ 1000000) :
    Calls Tryz.prog 69 #[.slice A n cp, .agg #[.string a.x, .string a.y, .string a.z]] w (RatrTo (stackE v) a w) := by
  obtain ⟨x, y, z⟩ := a
  dsimp only at hy ⊢
  obtain ⟨W1, hW1⟩ : ∃ W1, w.alloc (.cells #[.string x, .string y, .string z] 41) = W1 := ⟨_, rfl⟩
  have hb1 : Below w.heap.size w W1 := by rw [← hW1]; exact stpA (Below.refl _ _) _
  have hg1 : W1.heap[w.heap.size]? = some (.cells #[.string x, .string y, .string z] 41 (0, 0)) := by rw [← hW1]; exact heap_alloc_new w _
  have hs1 : W1.heap.size = w.heap.size + 1 := by rw [← hW1, World.size_alloc]
  obtain ⟨W2, hW2⟩ : ∃ W2, W1.alloc (.cells #[.string ⟨#[]⟩, .string ⟨#[]⟩, .string ⟨#[]⟩] 41) = W2 := ⟨_, rfl⟩
  have hb2 : Below W1.heap.size W1 W2 := by rw [← hW2]; exact stpA (Below.refl _ _) _
  have HG2 : Hid (W2.heap[w.heap.size + 1]? = some (.cells zAt3 41 (0, 0))) := Lib.hid (by rw [← hs1, ← hW2]; exact heap_alloc_new W1 _)
  have hg2 := kept_heap hg1 hb2
  have k1 := cellV W2 _ 1 _ _ _ hg2
  have k2 := cellV W2 _ 2 _ _ _ hg2
  have HB2 : Hid (Below w.heap.size w W2) := Lib.hid (stp hb1 hb2)
  have HS2 : Hid (W2.heap.size = w.heap.size + 2) := Lib.hid (by rw [← hW2, World.size_alloc, hs1])
  have HR : Hid (∀ W, Below w.heap.size w W → RdB NdS W A v) := Lib.hid fun W h => hr.on h
  clear hg1 hb1 hb2 hr
  cases hc : cutC y.data.toList with
  | none =>
    have HC : Hid (∀ W, Calls Tryz.prog 65 #[.string y] W fun e w' => e = .returned (.tuple #[.string ⟨#[]⟩, .string y, .bool false]) ∧ ∃ n, w' = W.drewN n) := Lib.hid fun W => rparts_none y W hy hc
    have HA : Hid (atE (stackE v) (abVal ⟨x, y, z⟩) = (⟨[], y.data.toList, z.data.toList⟩, true)) := Lib.hid (by
      unfold atE
      show (match cutC y.data.toList with | some (x, y) => _ | none => _) = _
      rw [hc]; rfl)
    clear hc hsz hg2
    go_enter Tryz.func69, Tryz.ntmps69
    go_wp2_with (first
      | (go_at_call 65; (with_reducible refine (HC.out _).mono ?_); rintro e2 w2 ⟨rfl, n2, rfl⟩)
      | (refine wpList_store_row rfl _ _ _ rfl (w.heap.size + 1) #[.string ⟨#[]⟩, .string y, .string z] rfl rfl 41 zAt3 HG2.out sizeAt3 rfl (oneAt3 _ _ _) ?_)
      | fail)
    exact bodyPost_ret (v := .tuple #[.agg #[.string ⟨#[]⟩, .string y, .string z], .bool true]) (rcell2 (p := 4) (q := 5) rfl _ _ _ _ #[.string ⟨#[]⟩, .string y, .string z] _ _ rfl (setRow_heap _ _ _ #[.string ⟨#[]⟩, .string y, .string z] _ _ HG2.out) Tryz.underlying41 rfl sizeAt3) rfl ⟨_, _, _, rfl, HA.out, below_setRowV (bel_drewN HB2.out _) (by omega) _⟩
  | some ab =>
    obtain ⟨a, b⟩ := ab
    obtain ⟨s, rfl⟩ : ∃ s : ByteArray, s.data.toList = a := ⟨⟨a.toArray⟩, by simp⟩
    obtain ⟨u, rfl⟩ : ∃ u : ByteArray, u.data.toList = b := ⟨⟨b.toArray⟩, by simp⟩
    have HC : Hid (∀ W, Calls Tryz.prog 65 #[.string y] W fun e w' => e = .returned (.tuple #[.string s, .string u, .bool true]) ∧ ∃ n, w' = W.drewN n) := Lib.hid fun W => rparts_some y s u W hy hc
    have HA : Hid (∀ (t : ByteArray) (q : Bool), lookE (stackE v) s.data.toList = (t.data.toList, q) → atE (stackE v) (abVal ⟨x, y, z⟩) = (⟨t.data.toList, u.data.toList, z.data.toList⟩, q)) := Lib.hid (fun t q h => by
      unfold atE
      show (match cutC y.data.toList with | some (x, y) => _ | none => _) = _
      rw [hc]
      show ((⟨(lookE (stackE v) s.data.toList).1, _, _⟩ : At), (lookE (stackE v) s.data.toList).2) = _
      rw [h]; rfl)
    have HL : Hid (∀ W, Below w.heap.size w W → Calls Tryz.prog 66 #[.slice A n cp, .string s] W (RlookTo (stackE v) s.data.toList W)) := Lib.hid fun W h => rlook11 A n cp v s W (HR.out W h) hn hm hsz
    have HGG2 := Lib.hid hg2
    clear hc hsz hg2
    go_enter Tryz.func69, Tryz.ntmps69
    go_wp2_with (first
      | (go_at_call 65; (with_reducible refine (HC.out _).mono ?_); rintro e2 w2 ⟨rfl, n2, rfl⟩)
      | (go_at_call 66; (with_reducible refine (HL.out _ (bel_drewN HB2.out _)).mono ?_); rintro e3 w3 ⟨t3, q3, rfl, hl3, hb3⟩; have HL3 := Lib.hid hl3; have HB3 : Hid (Below w.heap.size w w3) := Lib.hid (stp (bel_drewN HB2.out _) hb3); have HG3 : Hid (w3.heap[w.heap.size + 1]? = some (.cells zAt3 41 (0, 0))) := Lib.hid (kept_heap (show (W2.drewN n2).heap[w.heap.size + 1]? = _ from HG2.out) hb3); have k3 := cellV w3 _ 2 _ _ _ (kept_heap (show (W2.drewN n2).heap[w.heap.size]? = _ from HGG2.out) hb3); clear hl3 hb3)
      | (refine wpList_store_row rfl _ _ _ rfl (w.heap.size + 1) #[.string t3, .string u, .string z] rfl rfl 41 zAt3 HG3.out sizeAt3 rfl (oneAt3 _ _ _) ?_)
      | fail)
    exact bodyPost_ret (v := .tuple #[.agg #[.string t3, .string u, .string z], .bool q3]) (rcell2 (p := 4) (q := 5) rfl _ _ _ _ #[.string t3, .string u, .string z] _ _ rfl (setRow_heap _ _ _ #[.string t3, .string u, .string z] _ _ HG3.out) Tryz.underlying41 rfl sizeAt3) rfl ⟨_, _, _, rfl, HA.out _ _ HL3.out, below_setRowV HB3.out (by omega) _⟩
end Hx
end Go.Proofs.YteobcohjikjalaaGreatDoor
set_option linter.unusedSimpArgs false
namespace Go.Proofs.YteobcohjikjalaaGreatDoor
open Go.RowKit
namespace Hx
open Lx Tr Tx Nmb Es
set_option maxRecDepth 100000
set_option maxHeartbeats 16000000
set_option linter.unusedVariables false
theorem em_l (s : ByteArray) : s.toList.isEmpty = s.data.toList.isEmpty := by rw [ByteArray.toList_eq]
theorem hold_1 (n : Nd) (x y z : ByteArray) (A : Option Addr) (c : Nat) (w : World) (h : NdAt n x y z A c w) (hs : SmallN n) (hk : n.kind = 1) (q : Bool) (hq : holdB n = q) :
    Calls Tryz.prog 57 #[NdV n x y z A c] w fun e w' => e = .returned (.bool q) ∧ Below w.heap.size w w' := by
  have HBO : Hid (∀ o, Below w.heap.size w (w.alloc o)) := Lib.hid fun o => (Below.refl _ _).alloc (Nat.le_refl _) o
  have HND : Hid (∀ W, Below w.heap.size w W → NdAt n x y z A c W) := Lib.hid fun W hW => h.on hW
  have HXS : Hid (x.size ≤ 1000000) := Lib.hid (by rw [← ba_l, h.space]; exact hs.space)
  have HYS : Hid (y.size ≤ 1000000) := Lib.hid (by rw [← ba_l, h.name]; exact hs.name)
  have HZS : Hid (z.size ≤ 1000000) := Lib.hid (by rw [← ba_l, h.text]; exact hs.text)
  have HLN : Hid (n.attrs.length ≤ 1000000) := Lib.hid hs.attrs
  have HEA := Lib.hid hs.each
  have ba := h.lo
  have bb := h.hi
  obtain ⟨m, hm⟩ : ∃ m, n.attrs.length = m := ⟨_, rfl⟩
  have HNL := Lib.hid hm
  obtain ⟨y9, hmy⟩ : ∃ y9, n.many = y9 := ⟨_, rfl⟩
  obtain ⟨a1, h1⟩ : ∃ a, okT x.data.toList = a := ⟨_, rfl⟩
  obtain ⟨a2, h2⟩ : ∃ a, fullL y.data.toList = a := ⟨_, rfl⟩
  obtain ⟨a3, h3⟩ : ∃ a, atsOk n.attrs = a := ⟨_, rfl⟩
  obtain ⟨a4, h4⟩ : ∃ a, z.toList.isEmpty = a := ⟨_, rfl⟩
  obtain ⟨a5, h5⟩ : ∃ a, decide ((0 : Int) ≤ y9) = a := ⟨_, rfl⟩
  have HQ : Hid (q = (a1 && (a2 && (a3 && (a4 && a5))))) := Lib.hid (by
    rw [← hq, ← h1, ← h2, ← h3, ← h4, ← h5, em_l, h.space, h.name, h.text, ← hmy]
    unfold holdB ndOk
    rw [if_pos hk]
    cases fullL n.name <;> cases n.text.isEmpty <;> cases okT n.space <;> cases atsOk n.attrs <;> cases decide ((0 : Int) ≤ n.many) <;> rfl)
  have H1 := Lib.hid h1
  have H2 := Lib.hid h2
  have H3 := Lib.hid h3
  unfold NdV
  rw [hk, hm, hmy]
  rw [hmy] at ba bb
  clear h hs hk hq h1 h2 h3 hm hmy
  cases a1 with
  | false =>
    obtain rfl : q = false := HQ.out
    go_enter Tryz.func57, Tryz.ntmps57
    go_wp2_with (first
      | (go_at_call 77; (with_reducible refine (istext x _ HXS.out false H1.out).mono ?_); rintro e1 w1 ⟨rfl, hb1⟩; have HB1 : Hid (Below w.heap.size w w1) := Lib.hid (bel_in9 (HBO.out _) hb1); have HX1 := Lib.hid (kept_heap (heap_alloc_new w (.cells #[.int .u8 ((1 : Nat) : Int), .string x, .string y, .slice A m c, .string z, .int .i64 y9] 39)) hb1); have d10 := cellV w1 _ 0 _ _ _ HX1.out; have d11 := cellV w1 _ 1 _ _ _ HX1.out; have d12 := cellV w1 _ 2 _ _ _ HX1.out; have d13 := cellV w1 _ 3 _ _ _ HX1.out; have d14 := cellV w1 _ 4 _ _ _ HX1.out; have d15 := cellV w1 _ 5 _ _ _ HX1.out; clear hb1)
      | fail)
    go_ret
    exact ⟨rfl, HB1.out⟩
  | true =>
    cases a2 with
    | false =>
      obtain rfl : q = false := HQ.out
      go_enter Tryz.func57, Tryz.ntmps57
      go_wp2_with (first
        | (go_at_call 77; (with_reducible refine (istext x _ HXS.out true H1.out).mono ?_); rintro e1 w1 ⟨rfl, hb1⟩; have HB1 : Hid (Below w.heap.size w w1) := Lib.hid (bel_in9 (HBO.out _) hb1); have HX1 := Lib.hid (kept_heap (heap_alloc_new w (.cells #[.int .u8 ((1 : Nat) : Int), .string x, .string y, .slice A m c, .string z, .int .i64 y9] 39)) hb1); have d10 := cellV w1 _ 0 _ _ _ HX1.out; have d11 := cellV w1 _ 1 _ _ _ HX1.out; have d12 := cellV w1 _ 2 _ _ _ HX1.out; have d13 := cellV w1 _ 3 _ _ _ HX1.out; have d14 := cellV w1 _ 4 _ _ _ HX1.out; have d15 := cellV w1 _ 5 _ _ _ HX1.out; clear hb1)
        | (go_at_call 78; (with_reducible refine (full9q y _ HYS.out false H2.out).mono ?_); rintro e2 w2 ⟨rfl, hb2⟩; have HB2 : Hid (Below w.heap.size w w2) := Lib.hid (stp HB1.out hb2); have HX2 := Lib.hid (kept_heap HX1.out hb2); have d20 := cellV w2 _ 0 _ _ _ HX2.out; have d21 := cellV w2 _ 1 _ _ _ HX2.out; have d22 := cellV w2 _ 2 _ _ _ HX2.out; have d23 := cellV w2 _ 3 _ _ _ HX2.out; have d24 := cellV w2 _ 4 _ _ _ HX2.out; have d25 := cellV w2 _ 5 _ _ _ HX2.out; clear hb2)
        | fail)
      go_ret
      exact ⟨rfl, HB2.out⟩
    | true =>
      cases a3 with
      | false =>
        obtain rfl : q = false := HQ.out
        go_enter Tryz.func57, Tryz.ntmps57
        go_wp2_with (first
          | (go_at_call 77; (with_reducible refine (istext x _ HXS.out true H1.out).mono ?_); rintro e1 w1 ⟨rfl, hb1⟩; have HB1 : Hid (Below w.heap.size w w1) := Lib.hid (bel_in9 (HBO.out _) hb1); have HX1 := Lib.hid (kept_heap (heap_alloc_new w (.cells #[.int .u8 ((1 : Nat) : Int), .string x, .string y, .slice A m c, .string z, .int .i64 y9] 39)) hb1); have d10 := cellV w1 _ 0 _ _ _ HX1.out; have d11 := cellV w1 _ 1 _ _ _ HX1.out; have d12 := cellV w1 _ 2 _ _ _ HX1.out; have d13 := cellV w1 _ 3 _ _ _ HX1.out; have d14 := cellV w1 _ 4 _ _ _ HX1.out; have d15 := cellV w1 _ 5 _ _ _ HX1.out; clear hb1)
          | (go_at_call 78; (with_reducible refine (full9q y _ HYS.out true H2.out).mono ?_); rintro e2 w2 ⟨rfl, hb2⟩; have HB2 : Hid (Below w.heap.size w w2) := Lib.hid (stp HB1.out hb2); have HX2 := Lib.hid (kept_heap HX1.out hb2); have d20 := cellV w2 _ 0 _ _ _ HX2.out; have d21 := cellV w2 _ 1 _ _ _ HX2.out; have d22 := cellV w2 _ 2 _ _ _ HX2.out; have d23 := cellV w2 _ 3 _ _ _ HX2.out; have d24 := cellV w2 _ 4 _ _ _ HX2.out; have d25 := cellV w2 _ 5 _ _ _ HX2.out; clear hb2)
          | (go_at_call 79; (with_reducible refine (mayhave A m c n.attrs _ (HND.out _ HB2.out).rd HNL.out (HNL.out ▸ HLN.out) HEA.out false H3.out).mono ?_); rintro e3 w3 ⟨rfl, hb3⟩; have HB3 : Hid (Below w.heap.size w w3) := Lib.hid (stp HB2.out hb3); have HX3 := Lib.hid (kept_heap HX2.out hb3); have d30 := cellV w3 _ 0 _ _ _ HX3.out; have d31 := cellV w3 _ 1 _ _ _ HX3.out; have d32 := cellV w3 _ 2 _ _ _ HX3.out; have d33 := cellV w3 _ 3 _ _ _ HX3.out; have d34 := cellV w3 _ 4 _ _ _ HX3.out; have d35 := cellV w3 _ 5 _ _ _ HX3.out; clear hb3)
          | fail)
        go_ret
        exact ⟨rfl, HB3.out⟩
      | true =>
        cases a4 with
        | false =>
          obtain rfl : q = false := HQ.out
          go_enter Tryz.func57, Tryz.ntmps57
          go_wp2_with (first
            | (go_at_call 77; (with_reducible refine (istext x _ HXS.out true H1.out).mono ?_); rintro e1 w1 ⟨rfl, hb1⟩; have HB1 : Hid (Below w.heap.size w w1) := Lib.hid (bel_in9 (HBO.out _) hb1); have HX1 := Lib.hid (kept_heap (heap_alloc_new w (.cells #[.int .u8 ((1 : Nat) : Int), .string x, .string y, .slice A m c, .string z, .int .i64 y9] 39)) hb1); have d10 := cellV w1 _ 0 _ _ _ HX1.out; have d11 := cellV w1 _ 1 _ _ _ HX1.out; have d12 := cellV w1 _ 2 _ _ _ HX1.out; have d13 := cellV w1 _ 3 _ _ _ HX1.out; have d14 := cellV w1 _ 4 _ _ _ HX1.out; have d15 := cellV w1 _ 5 _ _ _ HX1.out; clear hb1)
            | (go_at_call 78; (with_reducible refine (full9q y _ HYS.out true H2.out).mono ?_); rintro e2 w2 ⟨rfl, hb2⟩; have HB2 : Hid (Below w.heap.size w w2) := Lib.hid (stp HB1.out hb2); have HX2 := Lib.hid (kept_heap HX1.out hb2); have d20 := cellV w2 _ 0 _ _ _ HX2.out; have d21 := cellV w2 _ 1 _ _ _ HX2.out; have d22 := cellV w2 _ 2 _ _ _ HX2.out; have d23 := cellV w2 _ 3 _ _ _ HX2.out; have d24 := cellV w2 _ 4 _ _ _ HX2.out; have d25 := cellV w2 _ 5 _ _ _ HX2.out; clear hb2)
            | (go_at_call 79; (with_reducible refine (mayhave A m c n.attrs _ (HND.out _ HB2.out).rd HNL.out (HNL.out ▸ HLN.out) HEA.out true H3.out).mono ?_); rintro e3 w3 ⟨rfl, hb3⟩; have HB3 : Hid (Below w.heap.size w w3) := Lib.hid (stp HB2.out hb3); have HX3 := Lib.hid (kept_heap HX2.out hb3); have d30 := cellV w3 _ 0 _ _ _ HX3.out; have d31 := cellV w3 _ 1 _ _ _ HX3.out; have d32 := cellV w3 _ 2 _ _ _ HX3.out; have d33 := cellV w3 _ 3 _ _ _ HX3.out; have d34 := cellV w3 _ 4 _ _ _ HX3.out; have d35 := cellV w3 _ 5 _ _ _ HX3.out; clear hb3)
            | fail)
          go_ret
          exact ⟨rfl, HB3.out⟩
        | true =>
          obtain rfl : q = a5 := HQ.out
          go_enter Tryz.func57, Tryz.ntmps57
          go_wp2_with (first
            | (go_at_call 77; (with_reducible refine (istext x _ HXS.out true H1.out).mono ?_); rintro e1 w1 ⟨rfl, hb1⟩; have HB1 : Hid (Below w.heap.size w w1) := Lib.hid (bel_in9 (HBO.out _) hb1); have HX1 := Lib.hid (kept_heap (heap_alloc_new w (.cells #[.int .u8 ((1 : Nat) : Int), .string x, .string y, .slice A m c, .string z, .int .i64 y9] 39)) hb1); have d10 := cellV w1 _ 0 _ _ _ HX1.out; have d11 := cellV w1 _ 1 _ _ _ HX1.out; have d12 := cellV w1 _ 2 _ _ _ HX1.out; have d13 := cellV w1 _ 3 _ _ _ HX1.out; have d14 := cellV w1 _ 4 _ _ _ HX1.out; have d15 := cellV w1 _ 5 _ _ _ HX1.out; clear hb1)
            | (go_at_call 78; (with_reducible refine (full9q y _ HYS.out true H2.out).mono ?_); rintro e2 w2 ⟨rfl, hb2⟩; have HB2 : Hid (Below w.heap.size w w2) := Lib.hid (stp HB1.out hb2); have HX2 := Lib.hid (kept_heap HX1.out hb2); have d20 := cellV w2 _ 0 _ _ _ HX2.out; have d21 := cellV w2 _ 1 _ _ _ HX2.out; have d22 := cellV w2 _ 2 _ _ _ HX2.out; have d23 := cellV w2 _ 3 _ _ _ HX2.out; have d24 := cellV w2 _ 4 _ _ _ HX2.out; have d25 := cellV w2 _ 5 _ _ _ HX2.out; clear hb2)
            | (go_at_call 79; (with_reducible refine (mayhave A m c n.attrs _ (HND.out _ HB2.out).rd HNL.out (HNL.out ▸ HLN.out) HEA.out true H3.out).mono ?_); rintro e3 w3 ⟨rfl, hb3⟩; have HB3 : Hid (Below w.heap.size w w3) := Lib.hid (stp HB2.out hb3); have HX3 := Lib.hid (kept_heap HX2.out hb3); have d30 := cellV w3 _ 0 _ _ _ HX3.out; have d31 := cellV w3 _ 1 _ _ _ HX3.out; have d32 := cellV w3 _ 2 _ _ _ HX3.out; have d33 := cellV w3 _ 3 _ _ _ HX3.out; have d34 := cellV w3 _ 4 _ _ _ HX3.out; have d35 := cellV w3 _ 5 _ _ _ HX3.out; clear hb3)
            | fail)
          go_ret
          exact ⟨rfl, HB3.out⟩
theorem hold_2 (n : Nd) (x y z : ByteArray) (A : Option Addr) (c : Nat) (w : World) (h : NdAt n x y z A c w) (hs : SmallN n) (hk : n.kind = 2) (q : Bool) (hq : holdB n = q) :
    Calls Tryz.prog 57 #[NdV n x y z A c] w fun e w' => e = .returned (.bool q) ∧ Below w.heap.size w w' := by
  have HBO : Hid (∀ o, Below w.heap.size w (w.alloc o)) := Lib.hid fun o => (Below.refl _ _).alloc (Nat.le_refl _) o
  have HND : Hid (∀ W, Below w.heap.size w W → NdAt n x y z A c W) := Lib.hid fun W hW => h.on hW
  have HXS : Hid (x.size ≤ 1000000) := Lib.hid (by rw [← ba_l, h.space]; exact hs.space)
  have HYS : Hid (y.size ≤ 1000000) := Lib.hid (by rw [← ba_l, h.name]; exact hs.name)
  have HZS : Hid (z.size ≤ 1000000) := Lib.hid (by rw [← ba_l, h.text]; exact hs.text)
  have HLN : Hid (n.attrs.length ≤ 1000000) := Lib.hid hs.attrs
  have HEA := Lib.hid hs.each
  have ba := h.lo
  have bb := h.hi
  obtain ⟨m, hm⟩ : ∃ m, n.attrs.length = m := ⟨_, rfl⟩
  have HNL := Lib.hid hm
  obtain ⟨y9, hmy⟩ : ∃ y9, n.many = y9 := ⟨_, rfl⟩
  obtain ⟨a1, h1⟩ : ∃ a, x.toList.isEmpty = a := ⟨_, rfl⟩
  obtain ⟨a2, h2⟩ : ∃ a, y.toList.isEmpty = a := ⟨_, rfl⟩
  obtain ⟨a3, h3⟩ : ∃ a, ((m : Int) == 0) = a := ⟨_, rfl⟩
  obtain ⟨a4, h4⟩ : ∃ a, (!z.toList.isEmpty) = a := ⟨_, rfl⟩
  obtain ⟨a5, h5⟩ : ∃ a, okT z.data.toList = a := ⟨_, rfl⟩
  obtain ⟨a6, h6⟩ : ∃ a, (y9 == 0) = a := ⟨_, rfl⟩
  have HQ : Hid (q = (a1 && (a2 && (a3 && (a4 && (a5 && a6)))))) := Lib.hid (by
    have e3 : ((m : Int) == 0) = n.attrs.isEmpty := by rw [← hm]; cases n.attrs <;> simp <;> omega
    have e6 : (y9 == 0) = (decide (n.many = 0) && decide (0 ≤ n.many)) := by rw [hmy, Bool.eq_iff_iff]; simp; omega
    rw [← hq, ← h1, ← h2, ← h3, ← h4, ← h5, ← h6, e3, e6, em_l, em_l, em_l, h.space, h.name, h.text]
    unfold holdB ndOk
    rw [if_neg (by omega), if_pos hk]
    cases n.name.isEmpty <;> cases n.space.isEmpty <;> cases n.attrs.isEmpty <;> cases decide (n.many = 0) <;> cases n.text.isEmpty <;> cases okT n.text <;> cases decide ((0 : Int) ≤ n.many) <;> rfl)
  have H5 := Lib.hid h5
  unfold NdV
  rw [hk, hm, hmy]
  rw [hmy] at ba bb
  clear h hs hk hq h5 hm hmy
  cases a1 with
  | false =>
    obtain rfl : q = false := HQ.out
    go_enter Tryz.func57, Tryz.ntmps57
    go_wp2_with fail
    go_ret
    exact ⟨rfl, HBO.out _⟩
  | true =>
    cases a2 with
    | false =>
      obtain rfl : q = false := HQ.out
      go_enter Tryz.func57, Tryz.ntmps57
      go_wp2_with fail
      go_ret
      exact ⟨rfl, HBO.out _⟩
    | true =>
      cases a3 with
      | false =>
        obtain rfl : q = false := HQ.out
        go_enter Tryz.func57, Tryz.ntmps57
        go_wp2_with fail
        go_ret
        exact ⟨rfl, HBO.out _⟩
      | true =>
        cases a4 with
        | false =>
          obtain rfl : q = false := HQ.out
          go_enter Tryz.func57, Tryz.ntmps57
          go_wp2_with fail
          go_ret
          exact ⟨rfl, HBO.out _⟩
        | true =>
          cases a5 with
          | false =>
            obtain rfl : q = false := HQ.out
            go_enter Tryz.func57, Tryz.ntmps57
            go_wp2_with (first
              | (go_at_call 77; (with_reducible refine (istext z _ HZS.out false H5.out).mono ?_); rintro e1 w1 ⟨rfl, hb1⟩; have HB1 : Hid (Below w.heap.size w w1) := Lib.hid (bel_in9 (HBO.out _) hb1); have HX1 := Lib.hid (kept_heap (heap_alloc_new w (.cells #[.int .u8 ((2 : Nat) : Int), .string x, .string y, .slice A m c, .string z, .int .i64 y9] 39)) hb1); have d10 := cellV w1 _ 0 _ _ _ HX1.out; have d11 := cellV w1 _ 1 _ _ _ HX1.out; have d12 := cellV w1 _ 2 _ _ _ HX1.out; have d13 := cellV w1 _ 3 _ _ _ HX1.out; have d14 := cellV w1 _ 4 _ _ _ HX1.out; have d15 := cellV w1 _ 5 _ _ _ HX1.out; clear hb1)
              | fail)
            go_ret
            exact ⟨rfl, HB1.out⟩
          | true =>
            obtain rfl : q = a6 := HQ.out
            go_enter Tryz.func57, Tryz.ntmps57
            go_wp2_with (first
              | (go_at_call 77; (with_reducible refine (istext z _ HZS.out true H5.out).mono ?_); rintro e1 w1 ⟨rfl, hb1⟩; have HB1 : Hid (Below w.heap.size w w1) := Lib.hid (bel_in9 (HBO.out _) hb1); have HX1 := Lib.hid (kept_heap (heap_alloc_new w (.cells #[.int .u8 ((2 : Nat) : Int), .string x, .string y, .slice A m c, .string z, .int .i64 y9] 39)) hb1); have d10 := cellV w1 _ 0 _ _ _ HX1.out; have d11 := cellV w1 _ 1 _ _ _ HX1.out; have d12 := cellV w1 _ 2 _ _ _ HX1.out; have d13 := cellV w1 _ 3 _ _ _ HX1.out; have d14 := cellV w1 _ 4 _ _ _ HX1.out; have d15 := cellV w1 _ 5 _ _ _ HX1.out; clear hb1)
              | fail)
            go_ret
            exact ⟨rfl, HB1.out⟩
theorem hold_no (n : Nd) (x y z : ByteArray) (A : Option Addr) (c : Nat) (w : World) (h : NdAt n x y z A c w) (hs : SmallN n) (hk1 : n.kind ≠ 1) (hk2 : n.kind ≠ 2) (q : Bool) (hq : holdB n = q) :
    Calls Tryz.prog 57 #[NdV n x y z A c] w fun e w' => e = .returned (.bool q) ∧ Below w.heap.size w w' := by
  have HBO : Hid (∀ o, Below w.heap.size w (w.alloc o)) := Lib.hid fun o => (Below.refl _ _).alloc (Nat.le_refl _) o
  obtain rfl : q = false := by rw [← hq]; unfold holdB ndOk; rw [if_neg hk1, if_neg hk2]; rfl
  have f1 : ((n.kind : Int) == 1) = false := by simp; omega
  have f2 : ((n.kind : Int) == 2) = false := by simp; omega
  unfold NdV
  clear h hs hk1 hk2 hq
  go_enter Tryz.func57, Tryz.ntmps57
  go_wp2_with fail
  go_ret
  exact ⟨rfl, HBO.out _⟩
theorem hold10 (n : Nd) (x y z : ByteArray) (A : Option Addr) (c : Nat) (w : World) (h : NdAt n x y z A c w) (hs : SmallN n) (q : Bool) (hq : holdB n = q) :
    Calls Tryz.prog 57 #[NdV n x y z A c] w fun e w' => e = .returned (.bool q) ∧ Below w.heap.size w w' := by
  by_cases h1 : n.kind = 1
  · exact hold_1 n x y z A c w h hs h1 q hq
  · by_cases h2 : n.kind = 2
    · exact hold_2 n x y z A c w h hs h2 q hq
    · exact hold_no n x y z A c w h hs h1 h2 q hq
end Hx
end Go.Proofs.YteobcohjikjalaaGreatDoor
set_option linter.unusedSimpArgs false
namespace Go.Proofs.YteobcohjikjalaaGreatDoor
open Go.RowKit
namespace Hx
open Tx Nmb Es
set_option linter.unusedVariables false
theorem u8_in {x : Int} (h0 : 0 ≤ x) (h1 : x ≤ 255) : IntKind.u8.wrap x = x := by rw [IntKind.wrap_u8]; omega
end Hx
end Go.Proofs.YteobcohjikjalaaGreatDoor
set_option linter.unusedSimpArgs false
namespace Go.Proofs.YteobcohjikjalaaGreatDoor
open Go.RowKit
namespace Hx
open Nmb
set_option linter.unusedVariables false
end Hx
end Go.Proofs.YteobcohjikjalaaGreatDoor
