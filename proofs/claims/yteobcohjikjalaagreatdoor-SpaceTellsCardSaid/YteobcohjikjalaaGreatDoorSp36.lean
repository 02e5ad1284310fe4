/-
  Texts of one seat, put together: SrbH, SrbI, SrbJ.
-/
import Derived.Test.YteobcohjikjalaaGreatDoorSp35
import Derived.Test.YteobcohjikjalaaGreatDoorSp14
import Derived.Test.YteobcohjikjalaaGreatDoorSp09
set_option linter.unusedSimpArgs false
namespace Go.Proofs.YteobcohjikjalaaGreatDoor
open Go.RowKit
namespace Hx
open Lx Tr Tx Nmb Es Ns
set_option maxRecDepth 100000
set_option maxHeartbeats 16000000
set_option linter.unusedVariables false
set_option linter.unusedSimpArgs false
def OtOne (B : Nat) (l : List Nd) (w : World) (e : Ending) (w' : World) : Prop := ∃ A c, e = .returned (.slice A l.length c) ∧ OtRd B w l A c w' ∧ Below w.heap.size w w'
def RDown (B : Nat) (A : Option Addr) (n c : Nat) (v : List Nd) (d : Nat) : Prop := ∀ (p : Nat) (r : List Nd) (outer : ByteArray) (w : World), p < v.length → restD d (v.drop p) = some r → RdS NdS w (fun b => b < B) A v → B ≤ w.heap.size →
  Calls Tryz.prog 54 #[.slice A n c, .int .i64 p, .string outer] w (OtOne B (walkD bareF bareDn d outer.data.toList (v.drop p)).1.1 w)
theorem ot_conv {B k : Nat} {w wr w2 : World} {L : List NB} {v : Value} (hB : B ≤ w.heap.size) (h : OtSt B w L v wr) (hk : Ot B wr w2 none k) : Ot B w w2 v.ownBlock k := by
  have hs := h.2.2.size
  refine ⟨?_, hk.2.1, fun e => ?_⟩
  · rcases hk.1 with h3 | h3
    · exact .inl h3
    · exact .inr (by omega)
  · have h3 := h.1.lt k e.symm
    rcases hk.1 with h4 | h4 <;> omega

theorem rdown_text (B : Nat) (A : Option Addr) (n c : Nat) (v : List Nd) (hn : v.length = n) (hl : n ≤ 512) (d p : Nat) (outer : ByteArray) (w : World) (hp : p < v.length) (hrd : RdS NdS w (fun b => b < B) A v) (hB : B ≤ w.heap.size) (hk : (v[p]'hp).kind = 2) :
    Calls Tryz.prog 54 #[.slice A n c, .int .i64 p, .string outer] w (OtOne B (walkD bareF bareDn d outer.data.toList (v.drop p)).1.1 w) := by
  obtain ⟨b0, off, x, y, t, A1, c1, hA, hbB, hin, q0, q1, q2, q3, q4, q5⟩ := nd_at hrd hp
  have hdr := List.drop_eq_getElem_cons hp
  obtain ⟨nd, hnd⟩ : ∃ nd, v[p]'hp = nd := ⟨_, rfl⟩
  rw [hnd] at hin q0 q3 q5 hdr hk
  rw [hdr, walkD_texts hk]
  rw [hk, show ((2 : Nat) : Int) = 2 from rfl] at q0
  have bp : (0 : Int) ≤ (p : Int) ∧ (p : Int) < (n : Int) := by omega
  have HIN := Lib.hid hin
  have HB := Lib.hid hB
  have HK := Lib.hid hk
  obtain ⟨n1, hn1⟩ : ∃ n1, nd.attrs.length = n1 := ⟨_, rfl⟩
  rw [hn1] at q3
  have HN1 := Lib.hid hn1
  obtain ⟨mm, hmm⟩ : ∃ mm, nd.many = mm := ⟨_, rfl⟩
  rw [hmm] at q5
  have HM1 := Lib.hid hmm
  subst hA
  clear hin hnd hdr hrd hbB hn1 hmm hk hB
  go_enter Tryz.func54, Tryz.ntmps54
  go_wp2_with fail
  go_ret
  have hst := OtSt.one (B := B) (w := w) (w1 := w) (Below.refl _ _) ⟨nd, x, y, t, A1, c1⟩ (nd_ot HIN.out HB.out (Below.refl _ _) none (fun k h => by cases h))
  have e : (nbCells ⟨nd, x, y, t, A1, c1⟩).toArray = #[.int .u8 2, .string x, .string y, .slice A1 n1 c1, .string t, .int .i64 mm] := by
    unfold nbCells ndCells
    dsimp only
    rw [HK.out, HN1.out, HM1.out]
    rfl
  rw [e] at hst
  exact ⟨_, _, rfl, hst.read.1, hst.2.2⟩

theorem ot_drew {B k : Nat} {w w2 : World} {row : Option Nat} (h : Ot B w.drew w2 row k) : Ot B w w2 row k := h
theorem rdown_elem (B : Nat) (A : Option Addr) (n c : Nat) (v : List Nd) (hn : v.length = n) (hl : n ≤ 512) (hsm : ∀ n ∈ v, SmallN n) (d p : Nat) (r : List Nd) (outer : ByteArray) (w : World) (hp : p < v.length) (hr : restD (d + 1) (v.drop p) = some r) (hpl : d + 1 ≤ 12) (hrd : RdS NdS w (fun b => b < B) A v) (hB : B ≤ w.heap.size) (hk : (v[p]'hp).kind = 1) (ih : RDown B A n c v d) :
    Calls Tryz.prog 54 #[.slice A n c, .int .i64 p, .string outer] w (OtOne B (walkD bareF bareDn (d + 1) outer.data.toList (v.drop p)).1.1 w) := by
  obtain ⟨b0, off, x, y, t, A1, c1, hA, hbB, hin, q0, q1, q2, q3, q4, q5⟩ := nd_at hrd hp
  have hdr := List.drop_eq_getElem_cons hp
  have hs := hsm _ (List.getElem_mem hp)
  obtain ⟨nd, hnd⟩ : ∃ nd, v[p]'hp = nd := ⟨_, rfl⟩
  rw [hnd] at hin q0 q3 q5 hdr hk hs
  rw [hk, show ((1 : Nat) : Int) = 1 from rfl] at q0
  have bp : (0 : Int) ≤ (p : Int) ∧ (p : Int) < (n : Int) := by omega
  obtain ⟨n1, hn1⟩ : ∃ n1, nd.attrs.length = n1 := ⟨_, rfl⟩
  rw [hn1] at q3
  have hr12 := restD_le (show d + 1 ≤ 12 by omega) hr
  have hrr := hr
  rw [hdr] at hrr
  obtain ⟨_, hm0, bb, hkk⟩ := restD_ok hrr
  rw [Nat.add_sub_cancel] at hkk
  obtain ⟨m, hmn⟩ : ∃ m : Nat, nd.many = (m : Int) := ⟨nd.many.toNat, by omega⟩
  rw [hmn, Int.toNat_natCast] at hkk
  have hkl := kidsD_len hkk
  rw [List.length_drop] at hkl
  obtain ⟨ul, hul⟩ : ∃ ul, under v p = ul := ⟨_, rfl⟩
  have hrdb : RdB NdS w A v := hrd.mono fun k hk => Nat.lt_of_lt_of_le hk hB
  have hun : ∀ W, Below w.heap.size w W → Calls Tryz.prog 47 #[.slice A n c, .int .i64 p] W (IntsTo (under v p) W) := fun W hW => runder10 A n c v p r W (hrdb.on hW) hn (by omega) hsm (by omega) hr12
  have hua : ∀ (j : Nat) (b : Bool) (p' : Nat), j < m → kidsD (restD d) j false (v.drop (p + 1)) = some (b, v.drop p') → p' ≤ v.length → ul.length = m ∧ ul[j]? = some p' := fun j b p' hj hkd hp' => by
    rw [← hul]
    exact under_ats (j := j) (m := m) (b := b) (b0 := bb) (r := r) (p' := p') hp (by rw [hnd, hmn, Int.toNat_natCast]) (kidsD_le (by omega) hkk) hj (kidsD_le (by omega) hkd) hp'
  have hulen : ul.length = m := by
    by_cases h0 : m = 0
    · obtain ⟨h1, _⟩ := places_lt (restD_loc 12) m (p + 1) _ _ _ _ (kidsD_le (show d ≤ 12 by omega) hkk)
      rw [← hul]
      unfold under
      rw [List.getElem?_eq_getElem hp]
      dsimp only
      rw [hnd, hmn, Int.toNat_natCast]
      exact h1
    · exact (hua 0 false (p + 1) (by omega) (by rw [kidsD]) (by omega)).1
  have HUN : Hid (∀ W, Below w.heap.size w W → Calls Tryz.prog 47 #[.slice A n c, .int .i64 p] W (UndTo ul m W)) := Lib.hid fun W hW => (by rw [← hul]; exact hun W hW : Calls Tryz.prog 47 #[.slice A n c, .int .i64 p] W (IntsTo ul W)).mono fun e w' h => UndTo.of h hulen
  have HUA : Hid (∀ (j : Nat) (b : Bool) (p' : Nat), j < m → kidsD (restD d) j false (v.drop (p + 1)) = some (b, v.drop p') → p' ≤ v.length → ul[j]? = some p') := Lib.hid fun j b p' h1 h2 h3 => (hua j b p' h1 h2 h3).2
  have HKD := Lib.hid hkk
  have HIH := Lib.hid ih
  have HLN := Lib.hid hn
  have HMB : Hid (m ≤ 512) := Lib.hid (by omega)
  have bm5 : (m : Int) ≤ 512 := by omega
  have HMN : Hid (nd.many = (m : Int)) := Lib.hid hmn
  rw [hmn] at q5
  have HIN := Lib.hid hin
  have HB := Lib.hid hB
  have HK := Lib.hid hk
  have HRD := Lib.hid hrd
  have HXS : Hid (x.data.toList = nd.space) := Lib.hid hin.space
  have HTO := Lib.hid (rtold11 outer nd x y t A1 n1 c1 (m : Int) w (hin.keep (fun k hk => Nat.lt_of_lt_of_le hk hB) fun _ _ _ => rfl) hs hn1 hmn)
  have HWB : Hid (∀ W, Below w.heap.size w W → True ∧ W.cell? ⟨b0, off + p * 6 + 1, none⟩ = some (.string x)) := Lib.hid fun W h => ⟨trivial, (h.cell (p := ⟨b0, _, none⟩) (Nat.lt_of_lt_of_le hbB hB)).trans q1⟩
  subst hA
  rw [hdr]
  clear hin hnd hrd hbB hn1 hk hB hs hr12 hrr hm0 hkk hkl hul hrdb hun hua hulen hmn ih hr
  go_enter Tryz.func54, Tryz.ntmps54
  go_wp2_with (first
    | (go_at_call 74; (with_reducible refine (HTO.out).mono ?_); rintro e1 w1 ⟨u, A4, c4, L, g, rfl, hnb, hg1, hown1, hb1⟩; rw [HMN.out] at hnb ⊢; have HNE := Lib.hid hnb; have HG1 := Lib.hid hg1; have HO1 := Lib.hid hown1; have HB1 := Lib.hid hb1; clear hnb hg1 hown1 hb1)
    | (go_at_call 47
       obtain ⟨W3, hW3⟩ : ∃ W3, w1.alloc (.cells #[.int .u8 1, .string ⟨#[]⟩, .string u, .slice A4 L.length c4, .string ⟨#[]⟩, .int .i64 (m : Int)] 39) = W3 := ⟨_, rfl⟩
       have hS3 : OtSt B w [⟨⟨1, (⟨#[]⟩ : ByteArray).data.toList, u.data.toList, L.map abVal, [], (m : Int)⟩, ⟨#[]⟩, u, ⟨#[]⟩, A4, c4⟩] (.slice (some ⟨w1.heap.size, 0, none⟩) 1 1) W3 := by
         rw [← hW3]
         exact st_made HB1.out HO1.out HG1.out (Below.refl _ _) (Nat.le_trans HMB.out (by decide))
       have hB33 := hS3.2.2
       have HS3 := Lib.hid hS3
       have HZ3 : Hid (W3.heap.size = w1.heap.size + 1) := Lib.hid (by rw [← hW3]; exact World.size_alloc _ _)
       rw [hW3]
       clear hW3 hS3
       (with_reducible refine (HUN.out W3 hB33).mono ?_)
       rintro e6 w6 ⟨A6, c6, rfl, hu6, hb6⟩
       have HU6 := Lib.hid hu6
       have HB6 := Lib.hid hb6
       clear hu6 hb6 hB33)
    | fail)
  have HW := Lib.hid (walkD_elems (f := bareF) (dn := bareDn) (d := d) (e := outer.data.toList) (n := nd) (l := v.drop (p + 1)) (by rw [HK.out]; decide))
  go_loopg [7, 9] m (fun gg x7 i wr => ∃ (j : Nat) (b' : Bool) (p' : Nat) (M : List NB) (V' : Value), j + gg = m ∧ i = .int .i64 j ∧ x7 = V' ∧ kidsD (restD d) j false (v.drop (p + 1)) = some (b', v.drop p') ∧ p' ≤ n ∧ OtSt B w ([⟨⟨1, (⟨#[]⟩ : ByteArray).data.toList, u.data.toList, L.map abVal, [], (m : Int)⟩, ⟨#[]⟩, u, ⟨#[]⟩, A4, c4⟩] ++ M) V' wr ∧ M.map NB.n = (walkK (walkD bareF bareDn d x.data.toList) j (v.drop (p + 1))).1.1 ∧ (0 < m → ∃ g, A6 = some ⟨g, 0, none⟩ ∧ g < wr.heap.size ∧ some g ≠ V'.ownBlock ∧ ∀ (j q : Nat), ul[j]? = some q → wr.cell? ⟨g, j, none⟩ = some (.int .i64 (q : Int))))
  case atStart =>
    refine ⟨0, false, p + 1, [], _, by omega, rfl, rfl, by rw [kidsD], by have := HLN.out; omega, by rw [List.append_nil]; exact HS3.out.below HB6.out, by simp [walkK], fun h0 => ?_⟩
    obtain ⟨g6, e, h1, h2, h3⟩ := HU6.out h0
    refine ⟨g6, e, h2, fun e2 => ?_, h3⟩
    have e3 : g6 = w1.heap.size := by simpa [Value.ownBlock] using e2
    have := HZ3.out
    omega
  case round =>
    obtain ⟨j, b', p', M, V', hjg, rfl, rfl, hkd, hpn', hst, hM, hu⟩ := hrel
    rename World => wr
    have HMM2 := Lib.hid hM
    have hrest := (walkK_rest (f := bareF) (dn := bareDn) (fun l r e h => walkD_rest d l r e h) x.data.toList j false _ b' _ hkd).1
    obtain ⟨LL, hLL⟩ : ∃ LL, [⟨⟨1, (⟨#[]⟩ : ByteArray).data.toList, u.data.toList, L.map abVal, [], (m : Int)⟩, ⟨#[]⟩, u, ⟨#[]⟩, A4, c4⟩] ++ M = LL := ⟨_, rfl⟩
    have HLL := Lib.hid hLL
    rw [hLL] at hst
    obtain ⟨Va, Vc, rfl⟩ := own_form2 hst.1
    have HST := Lib.hid hst
    have hlb : LL.length ≤ 600 := by
      have h1 := (walkK_rest (f := bareF) (dn := bareDn) (fun l r e h => walkD_rest d l r e h) x.data.toList j false _ b' _ hkd).2
      rw [← hM, List.length_map, List.length_drop, List.length_drop] at h1
      have := HLN.out
      rw [← hLL, List.length_append, List.length_singleton]
      omega
    have HLB := Lib.hid hlb
    have bm5' : (0 : Int) ≤ (m : Int) ∧ (m : Int) ≤ 512 := by omega
    by_cases hlt : j < m
    · have hlt2 : (j : Int) < (m : Int) := by omega
      have bj : (0 : Int) ≤ (j : Int) ∧ (j : Int) < (m : Int) := by omega
      obtain ⟨hp2, r2, h1, h2, h3⟩ := kids_more HKD.out hkd hlt
      obtain ⟨g6, rfl, hg6, hg6n, hci0⟩ := hu (by omega)
      have hci := hci0 j p' (HUA.out j b' p' hlt hkd (by have := HLN.out; omega))
      have HCI0 := Lib.hid hci0
      have HG6 := Lib.hid (And.intro hg6 hg6n)
      have hwl := walkD_rest (f := bareF) (dn := bareDn) d _ _ x.data.toList h1
      have hrl := restD_len h1
      have HSS : Hid (∀ W, Below wr.heap.size wr W → W.cell? ⟨g6, j, none⟩ = some (.int .i64 (p' : Int)) ∧ W.cell? ⟨b0, off + p * 6 + 1, none⟩ = some (.string x)) := Lib.hid fun W h => ⟨(h.cell (p := ⟨g6, j, none⟩) hg6).trans hci, (HWB.out W (stp hst.2.2 h)).2⟩
      have HC : Hid (Calls Tryz.prog 54 #[.slice (some ⟨b0, off, none⟩) n c, .int .i64 p', .string x] wr.drew fun e w' => ∃ (ad : Addr) (M2 : List NB) (cx : Nat), e = .returned (.slice (some ad) M2.length cx) ∧ M2.map NB.n = (walkD bareF bareDn d x.data.toList (v.drop p')).1.1 ∧ (∀ b ∈ M2, NdIn b.n b.x b.y b.z b.A b.c w' (Ot B wr.drew w' none)) ∧ (∀ (j : Nat) (u : Value), (M2.flatMap nbCells)[j]? = some u → w'.cell? (ad.add j) = some u) ∧ Below wr.heap.size wr.drew w') := Lib.hid (by
        have hbd : Below w.heap.size w wr.drew := hst.2.2.drew
        have hcc := HIH.out p' r2 x wr.drew hp2 h1 (HRD.out.keep (fun _ h => h) fun b o hb => hbd.cell (p := ⟨b, o, none⟩) (Nat.lt_of_lt_of_le hb HB.out)) (Nat.le_trans HB.out hst.2.2.size)
        refine hcc.mono fun e w' hh => ?_
        obtain ⟨Ax, cx, rfl, hrdx, hbx⟩ := hh
        obtain ⟨ad, M2, rfl, hM2, hN2, hC2⟩ := hrdx.out (by omega)
        exact ⟨ad, M2, cx, by rw [← hM2, List.length_map], hM2, hN2, hC2, hbx⟩)
      obtain ⟨p3, hp3⟩ : ∃ p3, v.length - r2.length = p3 := ⟨_, rfl⟩
      rw [hp3] at h2
      have H2 := Lib.hid h2
      have HP3 : Hid (p3 ≤ n) := Lib.hid (by have := HLN.out; omega)
      have HSN : Hid ((walkK (walkD bareF bareDn d x.data.toList) (j + 1) (v.drop (p + 1))).1.1 = (walkK (walkD bareF bareDn d x.data.toList) j (v.drop (p + 1))).1.1 ++ (walkD bareF bareDn d x.data.toList (v.drop p')).1.1) := Lib.hid (by rw [walkK_snocs, hrest])
      have HTB : Hid ((walkD bareF bareDn d x.data.toList (v.drop p')).1.1.length ≤ 512) := Lib.hid (by have := hwl.2; rw [List.length_drop] at this; have := HLN.out; omega)
      clear hkd h1 h2 h3 hp3 hst hM hrest hci0 hlb hLL hu hwl hrl hg6 hg6n
      go_wp2_with fail
      refine wp_region_noPanic ?_
      refine wp_region_Z (fun W => W.cell? ⟨g6, j, none⟩ = some (.int .i64 (p' : Int)) ∧ W.cell? ⟨b0, off + p * 6 + 1, none⟩ = some (.string x)) 13 (by kernel_rfl) ?_
      have hS := HSS.out wr.drew (Below.refl _ _).drew
      refine takeZ (i := 0) (v := .slice Va LL.length Vc) rfl (by kernel_rfl) (by kernel_rfl) (by kernel_rfl) (by kernel_rfl) (fun _ _ _ h => h) (Or.inl ⟨by rfl, ?_⟩) hS ?_
      · intro w' hSw; (try dsimp only at hSw); obtain ⟨s0, s1⟩ := hSw; go_simp
      try simp only [Act.put, List.setIfInBounds_toArray, List.set_cons_zero, List.set_cons_succ]
      refine takeZ (i := 1) (v := .slice (some ⟨b0, off, none⟩) n c) rfl (by kernel_rfl) (by kernel_rfl) (by kernel_rfl) (by kernel_rfl) (fun _ _ _ h => h) (Or.inl ⟨by rfl, ?_⟩) hS ?_
      · intro w' hSw; (try dsimp only at hSw); obtain ⟨s0, s1⟩ := hSw; go_simp
      try simp only [Act.put, List.setIfInBounds_toArray, List.set_cons_zero, List.set_cons_succ]
      refine takeZ (i := 2) (v := .slice (some ⟨g6, 0, none⟩) m c6) rfl (by kernel_rfl) (by kernel_rfl) (by kernel_rfl) (by kernel_rfl) (fun _ _ _ h => h) (Or.inl ⟨by rfl, ?_⟩) hS ?_
      · intro w' hSw; (try dsimp only at hSw); obtain ⟨s0, s1⟩ := hSw; go_simp
      try simp only [Act.put, List.setIfInBounds_toArray, List.set_cons_zero, List.set_cons_succ]
      refine takeZ (i := 3) (v := .int .i64 j) rfl (by kernel_rfl) (by kernel_rfl) (by kernel_rfl) (by kernel_rfl) (fun _ _ _ h => h) (Or.inl ⟨by rfl, ?_⟩) hS ?_
      · intro w' hSw; (try dsimp only at hSw); obtain ⟨s0, s1⟩ := hSw; go_simp
      try simp only [Act.put, List.setIfInBounds_toArray, List.set_cons_zero, List.set_cons_succ]
      refine takeZ (i := 4) (v := .pointer (some ⟨g6, j, none⟩)) rfl (by kernel_rfl) (by kernel_rfl) (by kernel_rfl) (by kernel_rfl) (fun _ _ _ h => h) (Or.inl ⟨by rfl, ?_⟩) hS ?_
      · intro w' hSw; (try dsimp only at hSw); obtain ⟨s0, s1⟩ := hSw; go_simp
      try simp only [Act.put, List.setIfInBounds_toArray, List.set_cons_zero, List.set_cons_succ]
      refine takeZ (i := 5) (v := .int .i64 p') rfl (by kernel_rfl) (by kernel_rfl) (by kernel_rfl) (by kernel_rfl) (fun _ _ _ h => h) (Or.inl ⟨by rfl, ?_⟩) hS ?_
      · intro w' hSw; (try dsimp only at hSw); obtain ⟨s0, s1⟩ := hSw; go_simp
      try simp only [Act.put, List.setIfInBounds_toArray, List.set_cons_zero, List.set_cons_succ]
      refine takeZ (i := 6) (v := .slice (some ⟨b0, off, none⟩) n c) rfl (by kernel_rfl) (by kernel_rfl) (by kernel_rfl) (by kernel_rfl) (fun _ _ _ h => h) (Or.inl ⟨by rfl, ?_⟩) hS ?_
      · intro w' hSw; (try dsimp only at hSw); obtain ⟨s0, s1⟩ := hSw; go_simp
      try simp only [Act.put, List.setIfInBounds_toArray, List.set_cons_zero, List.set_cons_succ]
      refine takeZ (i := 7) (v := .int .i64 p) rfl (by kernel_rfl) (by kernel_rfl) (by kernel_rfl) (by kernel_rfl) (fun _ _ _ h => h) (Or.inl ⟨by rfl, ?_⟩) hS ?_
      · intro w' hSw; (try dsimp only at hSw); obtain ⟨s0, s1⟩ := hSw; go_simp
      try simp only [Act.put, List.setIfInBounds_toArray, List.set_cons_zero, List.set_cons_succ]
      refine takeZ (i := 8) (v := .pointer (some ⟨b0, off + p * 6, none⟩)) rfl (by kernel_rfl) (by kernel_rfl) (by kernel_rfl) (by kernel_rfl) (fun _ _ _ h => h) (Or.inl ⟨by rfl, ?_⟩) hS ?_
      · intro w' hSw; (try dsimp only at hSw); obtain ⟨s0, s1⟩ := hSw; go_simp
      try simp only [Act.put, List.setIfInBounds_toArray, List.set_cons_zero, List.set_cons_succ]
      refine takeZ (i := 9) (v := .pointer (some ⟨b0, off + p * 6 + 1, none⟩)) rfl (by kernel_rfl) (by kernel_rfl) (by kernel_rfl) (by kernel_rfl) (fun _ _ _ h => h) (Or.inl ⟨by rfl, ?_⟩) hS ?_
      · intro w' hSw; (try dsimp only at hSw); obtain ⟨s0, s1⟩ := hSw; go_simp
      try simp only [Act.put, List.setIfInBounds_toArray, List.set_cons_zero, List.set_cons_succ]
      refine takeZ (i := 10) (v := .string x) rfl (by kernel_rfl) (by kernel_rfl) (by kernel_rfl) (by kernel_rfl) (fun _ _ _ h => h) (Or.inl ⟨by rfl, ?_⟩) hS ?_
      · intro w' hSw; (try dsimp only at hSw); obtain ⟨s0, s1⟩ := hSw; go_simp
      try simp only [Act.put, List.setIfInBounds_toArray, List.set_cons_zero, List.set_cons_succ]
      refine stepZ (i := 11) (by kernel_rfl) rfl (fun K hK => ?_)
      go_simp
      go_at_call 54; (with_reducible refine (HC.out).mono ?_); rintro e2 w2 ⟨ad2, M2, cx2, rfl, hM2, hn2, ht2, hb2⟩
      have HM2 := Lib.hid hM2
      have HN2 := Lib.hid hn2
      have HT2 := Lib.hid ht2
      have HB2' : Hid (Below wr.heap.size wr w2) := Lib.hid ((Below.refl wr.heap.size wr).drew.trans hb2)
      have HMB2 : Hid (M2.length ≤ 512) := Lib.hid (by have := HTB.out; rw [← hM2, List.length_map] at this; exact this)
      clear hM2 hn2 ht2 hb2
      go_wp2_with fail
      have hS2 := HSS.out w2 HB2'.out
      refine hK.out _ _ (fun _ => hS2) (fun _ => ?_)
      clear hK K
      try simp only [Act.put, List.setIfInBounds_toArray, List.set_cons_zero, List.set_cons_succ]
      refine stepZ (i := 12) (by kernel_rfl) rfl (fun K hK => ?_)
      refine step_append_nds rfl (.tmp 37) (.tmp 48) rfl LL M2 (.slice Va LL.length Vc) rfl (HST.out.below HB2'.out) (some ad2) M2.length cx2 rfl rfl (fun h => by cases h) (fun ad e => by injection e with e; subst e; exact HT2.out) (fun b hb => (HN2.out b hb).keep (fun k hk => ot_conv HB.out HST.out (ot_drew hk)) fun _ _ _ => rfl) (by have := HLB.out; have := HMB2.out; omega) ?_
      intro v9 w9 hot9 hgr9 hlie9
      obtain ⟨A9, c9, rfl⟩ := own_form2 hot9.1
      rw [List.length_append] at hot9 hlie9
      have HT9 := Lib.hid hot9
      have HB9 : Hid (Below w.heap.size w w9) := Lib.hid hot9.2.2
      have hS9 : w9.cell? ⟨g6, j, none⟩ = some (.int .i64 (p' : Int)) ∧ w9.cell? ⟨b0, off + p * 6 + 1, none⟩ = some (.string x) := ⟨(hgr9.cell_far ⟨g6, j, none⟩ (by have := HB2'.out.size; have := HG6.out.1; show g6 < _; omega) HG6.out.2).trans hS2.1, (HWB.out w9 HB9.out).2⟩
      have HU9 : Hid (g6 < w9.heap.size ∧ some g6 ≠ (Value.slice A9 (LL.length + M2.length) c9).ownBlock ∧ ∀ (j q : Nat), ul[j]? = some q → w9.cell? ⟨g6, j, none⟩ = some (.int .i64 (q : Int))) := Lib.hid ⟨by have := hgr9.size; have := HB2'.out.size; have := HG6.out.1; omega, fun e => by
                rcases hlie9 with h | h
                · rw [h] at e; exact HG6.out.2 e
                · rw [h] at e; injection e with e; have := HB2'.out.size; have := HG6.out.1; omega, fun j q hj => (hgr9.cell_far ⟨g6, j, none⟩ (by have := HB2'.out.size; have := HG6.out.1; show g6 < _; omega) HG6.out.2).trans ((HB2'.out.cell (p := ⟨g6, j, none⟩) HG6.out.1).trans (HCI0.out j q hj))⟩
      clear hot9 hgr9 hlie9
      refine hK.out _ _ (fun _ => hS9) (fun _ => ?_)
      clear hK K
      try simp only [Act.put, List.setIfInBounds_toArray, List.set_cons_zero, List.set_cons_succ]
      refine stepZ (i := 13) (by kernel_rfl) rfl (fun K hK => ?_)
      go_simp
      refine hK.out _ _ (fun h => absurd rfl h) (fun _ => ?_)
      clear hK K
      try simp only [Act.put, List.setIfInBounds_toArray, List.set_cons_zero, List.set_cons_succ]
      refine doneZ (by kernel_rfl) ?_ _
      refine NoPanic.normal ?_
      go_wp2_with fail
      go_roundg (gk - 1)
      case measure => omega
      case rel => exact ⟨j + 1, _, p3, M ++ M2, _, by omega, by go_num, rfl, H2.out, HP3.out, by rw [← List.append_assoc, HLL.out]; exact HT9.out, by rw [List.map_append, HMM2.out, HM2.out, HSN.out], fun _ => ⟨g6, rfl, HU9.out⟩⟩
    · obtain rfl : j = m := by omega
      have hjj : ¬ ((j : Int) < (j : Int)) := by omega
      clear hkd hst hM hrest hlb hLL hu
      go_wp2_with fail
      go_ret
      obtain ⟨R9, _⟩ := HST.out.read
      have hl : LL.map NB.n = (walkD bareF bareDn (d + 1) outer.data.toList (nd :: v.drop (p + 1))).1.1 := by
        rw [HW.out, ← HLL.out, List.map_append, HMM2.out]
        show [_] ++ _ = _
        unfold bareF bareDn
        rw [HNE.out, HMN.out, HXS.out]
        rfl
      rw [hl] at R9
      refine ⟨Va, Vc, ?_, R9, HST.out.2.2⟩
      show Ending.returned (.slice Va LL.length Vc) = _
      rw [← hl, List.length_map]

theorem rdown_all (B : Nat) (A : Option Addr) (n c : Nat) (v : List Nd) (hn : v.length = n) (hl : n ≤ 512) (hsm : ∀ n ∈ v, SmallN n) : ∀ d, d ≤ 12 → RDown B A n c v d := by
  intro d
  induction d with
  | zero =>
    intro _ p r outer w hp hr hrd hB
    have hk : (v[p]'hp).kind = 2 := by
      have h' := hr
      rw [List.drop_eq_getElem_cons hp, restD] at h'
      by_cases hn : ndOk (v[p]'hp) = true ∧ (v[p]'hp).kind = 2
      · exact hn.2
      · rw [if_neg hn] at h'; cases h'
    exact rdown_text B A n c v hn hl 0 p outer w hp hrd hB hk
  | succ d ih =>
    intro hd p r outer w hp hr hrd hB
    have hok : ndOk (v[p]'hp) = true := by
      have h' := hr
      rw [List.drop_eq_getElem_cons hp] at h'
      exact (restD_ok h').1
    by_cases hk : (v[p]'hp).kind = 1
    · exact rdown_elem B A n c v hn hl hsm d p r outer w hp hr (by omega) hrd hB hk (ih (by omega))
    · exact rdown_text B A n c v hn hl (d + 1) p outer w hp hrd hB ((ndOk_kind hok).resolve_left hk)

end Hx
end Go.Proofs.YteobcohjikjalaaGreatDoor
set_option linter.unusedSimpArgs false
namespace Go.Proofs.YteobcohjikjalaaGreatDoor
open Go.RowKit
namespace Ns
open Lx Tr Tx Nmb Es
set_option maxRecDepth 100000
set_option maxHeartbeats 16000000
set_option linter.unusedVariables false
theorem bareK_all {d : Nat} {o : List UInt8} (hd : ∀ l r, restD d l = some r → (walkD bareF bareDn d o l).1.2 = (walkD bareF bareDn d o l).1.1.all fun n => decide (n.attrs.length ≤ 16)) : ∀ (k : Nat) (b b' : Bool) (l r : List Nd), kidsD (restD d) k b l = some (b', r) → (walkK (walkD bareF bareDn d o) k l).1.2 = (walkK (walkD bareF bareDn d o) k l).1.1.all fun n => decide (n.attrs.length ≤ 16) := by
  intro k
  induction k with
  | zero => intro b b' l r h; rw [walkK]; rfl
  | succ k ih =>
    intro b b' l r h
    cases l with
    | nil => rw [kidsD] at h; cases h
    | cons n l =>
      rw [kidsD] at h
      by_cases hb : b = true ∧ n.kind = 2
      · rw [if_pos hb] at h; cases h
      · rw [if_neg hb] at h
        cases hn : restD d (n :: l) with
        | none => rw [hn] at h; cases h
        | some y =>
          rw [hn] at h
          rw [walkK]
          dsimp only
          rw [(walkD_rest d _ _ o hn).1, List.all_append, hd _ _ hn, ih _ _ _ _ h]
theorem bareD_all : ∀ (d : Nat) (o : List UInt8) (l r : List Nd), restD d l = some r → (walkD bareF bareDn d o l).1.2 = (walkD bareF bareDn d o l).1.1.all fun n => decide (n.attrs.length ≤ 16) := by
  intro d
  induction d with
  | zero =>
    intro o l r h
    cases l with
    | nil => rw [walkD]; rfl
    | cons n l =>
      rw [restD] at h
      by_cases hn : ndOk n = true ∧ n.kind = 2
      · rw [walkD]
        have := (ndOk_two hn.1 hn.2).2.2.2.1
        simp [this]
      · rw [if_neg hn] at h; cases h
  | succ d ih =>
    intro o l r h
    cases l with
    | nil => rw [walkD]; rfl
    | cons n l =>
      obtain ⟨hok, _, bb, hk⟩ := restD_ok h
      rw [Nat.add_sub_cancel] at hk
      by_cases h2 : n.kind = 2
      · rw [walkD, if_pos h2]
        have := (ndOk_two hok h2).2.2.2.1
        simp [this]
      · rw [walkD, if_neg h2]
        dsimp only
        rw [bareK_all (fun l r h => ih _ l r h) _ _ _ _ _ hk, List.all_cons]
        rfl
end Ns
namespace Hx
open Lx Tr Tx Nmb Es Ns
set_option linter.unusedVariables false
set_option linter.unusedSimpArgs false

theorem rtoldv11 (A : Option Addr) (n c : Nat) (v : List Nd) (outer : ByteArray) (w : World) (hr : RdB NdS w A v) (hn : v.length = n) (hsm : ∀ m ∈ v, SmallN m) (hm : mayV v = true) :
    Calls Tryz.prog 30 #[.slice A n c, .string outer] w (OtOne w.heap.size (bareW v outer.data.toList).1.1 w) := by
  have hrest := (mayV_iff.1 hm).2.2
  have hl := (mayV_iff.1 hm).1
  have hp0 : 0 < v.length := by
    obtain ⟨_, ⟨m, l, rfl, _⟩, _⟩ := mayV_iff.1 hm
    simp
  have HD : Hid (Calls Tryz.prog 54 #[.slice A n c, .int .i64 0, .string outer] w (OtOne w.heap.size (bareW v outer.data.toList).1.1 w)) := Lib.hid (rdown_all w.heap.size A n c v hn (by omega) hsm 12 (Nat.le_refl _) 0 [] outer w hp0 hrest hr (Nat.le_refl _))
  clear hr hn hsm hm hrest hl hp0
  go_enter Tryz.func30, Tryz.ntmps30
  go_wp2_with (first
    | (go_at_call 54; (with_reducible refine (HD.out).mono ?_); rintro e1 w1 ⟨A1, c1, rfl, hr1, hb1⟩; have HR1 := Lib.hid hr1; have HB1 := Lib.hid hb1; clear hr1 hb1)
    | fail)
  go_ret
  exact ⟨A1, c1, rfl, HR1.out, HB1.out⟩

theorem chk_ok11 (s : ByteArray) : okT s.data.toList = true ↔ chkE s = 0 := by
  unfold okT chkE isP
  rw [Bool.and_eq_true, decide_eq_true_eq, ba_len5]
  by_cases h1 : 16384 < s.size
  · rw [if_pos h1]
    constructor
    · intro h; omega
    · intro h; cases h
  · rw [if_neg h1]
    cases h2 : (pts s.data.toList).isSome with
    | true => simp; omega
    | false => simp

theorem rbare_no (A : Option Addr) (n c : Nat) (v : List Nd) (outer : ByteArray) (w : World) (hr : RdB NdS w A v) (hn : v.length = n) (hsm : ∀ m ∈ v, SmallN m) (hos : outer.size ≤ 1000000) (HMAY : ∀ W, Below w.heap.size w W → Calls Tryz.prog 28 #[.slice A n c] W fun e w' => e = .returned (.bool (mayS v)) ∧ Below W.heap.size W w') (hm : mayS v = false) :
    Calls Tryz.prog 9 #[.slice A n c, .string outer] w (OtNo (bareR v outer.data.toList).1 (bareR v outer.data.toList).2 w) := by
  have hnot : ¬ (mayS v = true ∧ okT outer.data.toList = true ∧ outer.data.toList ≠ ofXml ∧ outer.data.toList ≠ ofXmlns) := fun h => by rw [hm] at h; cases h.1
  have hq : bareR v outer.data.toList = ([], 8) := by unfold bareR; rw [if_neg hnot]
  rw [hq]
  have HM : Hid (∀ W, Below w.heap.size w W → Calls Tryz.prog 28 #[.slice A n c] W fun e w' => e = .returned (.bool false) ∧ Below W.heap.size W w') := Lib.hid (by rw [hm] at HMAY; exact HMAY)
  clear hr hn hsm HMAY hq hnot
  go_enter Tryz.func9, Tryz.ntmps9
  go_wp2_with (first
    | (go_at_call 28; (with_reducible refine (HM.out _ (Below.refl _ _)).mono ?_); rintro e1 w1 ⟨rfl, hb1⟩; have HB1 := Lib.hid hb1; clear hb1)
    | fail)
  go_ret2
  exact ⟨none, 0, rfl, fun _ => rfl, RdS.nil _ _ _, HB1.out⟩

theorem rbare_chk (A : Option Addr) (n c : Nat) (v : List Nd) (outer : ByteArray) (w : World) (hr : RdB NdS w A v) (hn : v.length = n) (hsm : ∀ m ∈ v, SmallN m) (hos : outer.size ≤ 1000000) (HMAY : ∀ W, Below w.heap.size w W → Calls Tryz.prog 28 #[.slice A n c] W fun e w' => e = .returned (.bool (mayS v)) ∧ Below W.heap.size W w') (hm : mayS v = true) (q : Int) (hc : chkE outer = q) (hq0 : q ≠ 0) :
    Calls Tryz.prog 9 #[.slice A n c, .string outer] w (OtNo (bareR v outer.data.toList).1 (bareR v outer.data.toList).2 w) := by
  have hnot : ¬ (mayS v = true ∧ okT outer.data.toList = true ∧ outer.data.toList ≠ ofXml ∧ outer.data.toList ≠ ofXmlns) := fun h => hq0 (by rw [← hc]; exact (chk_ok11 outer).1 h.2.1)
  have hq : bareR v outer.data.toList = ([], 8) := by unfold bareR; rw [if_neg hnot]
  rw [hq]
  have HM : Hid (∀ W, Below w.heap.size w W → Calls Tryz.prog 28 #[.slice A n c] W fun e w' => e = .returned (.bool true) ∧ Below W.heap.size W w') := Lib.hid (by rw [hm] at HMAY; exact HMAY)
  have HC := Lib.hid fun W => rcheck_any outer W hos q hc
  have qn : (q != 0) = true := by simpa using hq0
  clear hr hn hsm HMAY hq hnot
  go_enter Tryz.func9, Tryz.ntmps9
  go_wp2_with (first
    | (go_at_call 28; (with_reducible refine (HM.out _ (Below.refl _ _)).mono ?_); rintro e1 w1 ⟨rfl, hb1⟩; have HB1 := Lib.hid hb1; clear hb1)
    | (go_at_call 29; (with_reducible refine (HC.out _).mono ?_); rintro e2 w2 ⟨rfl, hb2⟩; have HB2 := Lib.hid (stp HB1.out hb2); clear hb2)
    | fail)
  go_ret2
  exact ⟨none, 0, rfl, fun _ => rfl, RdS.nil _ _ _, HB2.out⟩

theorem rbare_xml (A : Option Addr) (n c : Nat) (v : List Nd) (outer : ByteArray) (w : World) (hr : RdB NdS w A v) (hn : v.length = n) (hsm : ∀ m ∈ v, SmallN m) (hos : outer.size ≤ 1000000) (HMAY : ∀ W, Below w.heap.size w W → Calls Tryz.prog 28 #[.slice A n c] W fun e w' => e = .returned (.bool (mayS v)) ∧ Below W.heap.size W w') (hm : mayS v = true) (hc : chkE outer = 0) (hx : outer.data.toList = ofXml) :
    Calls Tryz.prog 9 #[.slice A n c, .string outer] w (OtNo (bareR v outer.data.toList).1 (bareR v outer.data.toList).2 w) := by
  have hnot : ¬ (mayS v = true ∧ okT outer.data.toList = true ∧ outer.data.toList ≠ ofXml ∧ outer.data.toList ≠ ofXmlns) := fun h => h.2.2.1 hx
  have hq : bareR v outer.data.toList = ([], 8) := by unfold bareR; rw [if_neg hnot]
  rw [hq]
  have HM : Hid (∀ W, Below w.heap.size w W → Calls Tryz.prog 28 #[.slice A n c] W fun e w' => e = .returned (.bool true) ∧ Below W.heap.size W w') := Lib.hid (by rw [hm] at HMAY; exact HMAY)
  have HC := Lib.hid fun W => rcheck_any outer W hos 0 hc
  have x1 : (outer.toList == [104, 116, 116, 112, 58, 47, 47, 119, 119, 119, 46, 119, 51, 46, 111, 114, 103, 47, 88, 77, 76, 47, 49, 57, 57, 56, 47, 110, 97, 109, 101, 115, 112, 97, 99, 101]) = true := by rw [ByteArray.toList_eq, hx]; rfl
  clear hr hn hsm HMAY hq hnot
  go_enter Tryz.func9, Tryz.ntmps9
  go_wp2_with (first
    | (go_at_call 28; (with_reducible refine (HM.out _ (Below.refl _ _)).mono ?_); rintro e1 w1 ⟨rfl, hb1⟩; have HB1 := Lib.hid hb1; clear hb1)
    | (go_at_call 29; (with_reducible refine (HC.out _).mono ?_); rintro e2 w2 ⟨rfl, hb2⟩; have HB2 := Lib.hid (stp HB1.out hb2); clear hb2)
    | fail)
  go_ret2
  exact ⟨none, 0, rfl, fun _ => rfl, RdS.nil _ _ _, HB2.out⟩

theorem rbare_xns (A : Option Addr) (n c : Nat) (v : List Nd) (outer : ByteArray) (w : World) (hr : RdB NdS w A v) (hn : v.length = n) (hsm : ∀ m ∈ v, SmallN m) (hos : outer.size ≤ 1000000) (HMAY : ∀ W, Below w.heap.size w W → Calls Tryz.prog 28 #[.slice A n c] W fun e w' => e = .returned (.bool (mayS v)) ∧ Below W.heap.size W w') (hm : mayS v = true) (hc : chkE outer = 0) (hx0 : outer.data.toList ≠ ofXml) (hx : outer.data.toList = ofXmlns) :
    Calls Tryz.prog 9 #[.slice A n c, .string outer] w (OtNo (bareR v outer.data.toList).1 (bareR v outer.data.toList).2 w) := by
  have hnot : ¬ (mayS v = true ∧ okT outer.data.toList = true ∧ outer.data.toList ≠ ofXml ∧ outer.data.toList ≠ ofXmlns) := fun h => h.2.2.2 hx
  have hq : bareR v outer.data.toList = ([], 8) := by unfold bareR; rw [if_neg hnot]
  rw [hq]
  have HM : Hid (∀ W, Below w.heap.size w W → Calls Tryz.prog 28 #[.slice A n c] W fun e w' => e = .returned (.bool true) ∧ Below W.heap.size W w') := Lib.hid (by rw [hm] at HMAY; exact HMAY)
  have HC := Lib.hid fun W => rcheck_any outer W hos 0 hc
  have x1 : (outer.toList == [104, 116, 116, 112, 58, 47, 47, 119, 119, 119, 46, 119, 51, 46, 111, 114, 103, 47, 88, 77, 76, 47, 49, 57, 57, 56, 47, 110, 97, 109, 101, 115, 112, 97, 99, 101]) = false := by rw [ByteArray.toList_eq]; exact beq_eq_false_iff_ne.2 hx0
  have x2 : (outer.toList == [104, 116, 116, 112, 58, 47, 47, 119, 119, 119, 46, 119, 51, 46, 111, 114, 103, 47, 50, 48, 48, 48, 47, 120, 109, 108, 110, 115, 47]) = true := by rw [ByteArray.toList_eq, hx]; rfl
  clear hr hn hsm HMAY hq hnot
  go_enter Tryz.func9, Tryz.ntmps9
  go_wp2_with (first
    | (go_at_call 28; (with_reducible refine (HM.out _ (Below.refl _ _)).mono ?_); rintro e1 w1 ⟨rfl, hb1⟩; have HB1 := Lib.hid hb1; clear hb1)
    | (go_at_call 29; (with_reducible refine (HC.out _).mono ?_); rintro e2 w2 ⟨rfl, hb2⟩; have HB2 := Lib.hid (stp HB1.out hb2); clear hb2)
    | fail)
  go_ret2
  exact ⟨none, 0, rfl, fun _ => rfl, RdS.nil _ _ _, HB2.out⟩

theorem rbare_yes (A : Option Addr) (n c : Nat) (v : List Nd) (outer : ByteArray) (w : World) (hr : RdB NdS w A v) (hn : v.length = n) (hsm : ∀ m ∈ v, SmallN m) (hos : outer.size ≤ 1000000) (HMAY : ∀ W, Below w.heap.size w W → Calls Tryz.prog 28 #[.slice A n c] W fun e w' => e = .returned (.bool (mayS v)) ∧ Below W.heap.size W w') (hm : mayS v = true) (hc : chkE outer = 0) (hx0 : outer.data.toList ≠ ofXml) (hx2 : outer.data.toList ≠ ofXmlns) :
    Calls Tryz.prog 9 #[.slice A n c, .string outer] w (OtNo (bareR v outer.data.toList).1 (bareR v outer.data.toList).2 w) := by
  have hmv : mayV v = true := by unfold mayS at hm; rw [Bool.and_eq_true] at hm; exact hm.2
  have HT : Hid (∀ W, Below w.heap.size w W → Calls Tryz.prog 30 #[.slice A n c, .string outer] W (OtOne W.heap.size (bareW v outer.data.toList).1.1 W)) := Lib.hid fun W hW => rtoldv11 A n c v outer W (hr.on hW) hn hsm hmv
  have hall : (bareW v outer.data.toList).1.2 = _ := bareD_all 12 outer.data.toList v [] (mayV_iff.1 hmv).2.2
  have hwl := (walkD_rest (f := bareF) (dn := bareDn) 12 v [] outer.data.toList (mayV_iff.1 hmv).2.2).2
  rw [show walkD bareF bareDn 12 outer.data.toList v = bareW v outer.data.toList from rfl] at hwl hall
  obtain ⟨WW, hWW⟩ : ∃ WW, bareW v outer.data.toList = WW := ⟨_, rfl⟩
  have hq : bareR v outer.data.toList = if WW.1.2 = true then (WW.1.1, 0) else ([], 4) := by
    unfold bareR
    rw [if_pos ⟨hm, (chk_ok11 outer).2 hc, hx0, hx2⟩, hWW]
  have hln : WW.1.1.length ≤ 512 := by rw [hWW] at hwl; have := (mayV_iff.1 hmv).1; simp at hwl; omega
  rw [hq]
  rw [hWW] at HT hall
  have HALL := Lib.hid hall
  obtain ⟨l, hl⟩ : ∃ l, WW.1.1 = l := ⟨_, rfl⟩
  obtain ⟨qq, hqq⟩ : ∃ qq, WW.1.2 = qq := ⟨_, rfl⟩
  rw [hl, hqq] at HALL
  rw [hl, hqq]
  obtain ⟨ans, hans⟩ : ∃ ans, (if qq = true then (l, 0) else ([], 4) : List Nd × Int) = ans := ⟨_, rfl⟩
  rw [hans]
  have HANS := Lib.hid hans
  rw [hl] at HT hln
  obtain ⟨n3, hn3⟩ : ∃ n3, l.length = n3 := ⟨_, rfl⟩
  have HN3 := Lib.hid hn3
  rw [hn3] at hln
  have HLN := Lib.hid hln
  have HTT : Hid (∀ W, Below w.heap.size w W → Calls Tryz.prog 30 #[.slice A n c, .string outer] W fun e w' => ∃ A3 c3, e = .returned (.slice A3 n3 c3) ∧ OtRd W.heap.size W l A3 c3 w' ∧ Below W.heap.size W w') := Lib.hid (by have := HT.out; unfold OtOne at this; rw [hn3] at this; exact this)
  have HM : Hid (∀ W, Below w.heap.size w W → Calls Tryz.prog 28 #[.slice A n c] W fun e w' => e = .returned (.bool true) ∧ Below W.heap.size W w') := Lib.hid (by rw [hm] at HMAY; exact HMAY)
  have HC := Lib.hid fun W => rcheck_any outer W hos 0 hc
  have x1 : (outer.toList == [104, 116, 116, 112, 58, 47, 47, 119, 119, 119, 46, 119, 51, 46, 111, 114, 103, 47, 88, 77, 76, 47, 49, 57, 57, 56, 47, 110, 97, 109, 101, 115, 112, 97, 99, 101]) = false := by rw [ByteArray.toList_eq]; exact beq_eq_false_iff_ne.2 hx0
  have x2 : (outer.toList == [104, 116, 116, 112, 58, 47, 47, 119, 119, 119, 46, 119, 51, 46, 111, 114, 103, 47, 50, 48, 48, 48, 47, 120, 109, 108, 110, 115, 47]) = false := by rw [ByteArray.toList_eq]; exact beq_eq_false_iff_ne.2 hx2
  clear hr hn hsm HMAY hq hmv hall hwl hWW hl hqq hn3 HT hln hm hans hx0 hx2 hc
  go_enter Tryz.func9, Tryz.ntmps9
  go_wp2_with (first
    | (go_at_call 28; (with_reducible refine (HM.out _ (Below.refl _ _)).mono ?_); rintro e1 w1 ⟨rfl, hb1⟩; have HB1 := Lib.hid hb1; clear hb1)
    | (go_at_call 29; (with_reducible refine (HC.out _).mono ?_); rintro e2 w2 ⟨rfl, hb2⟩; have HB2 := Lib.hid (stp HB1.out hb2); clear hb2)
    | (go_at_call 30; (with_reducible refine (HTT.out _ HB2.out).mono ?_); rintro e3 w3 ⟨A3, c3, rfl, hr3, hb3⟩; have HR3 := Lib.hid hr3; have HB3 := Lib.hid (stp HB2.out hb3); clear hr3 hb3)
    | fail)
  go_loopg [7] n3 (fun gg i wr => ∃ k : Nat, k + gg = n3 ∧ i = .int .i64 k ∧ ((l.take k).all fun m => decide (m.attrs.length ≤ 16)) = true ∧ Below w3.heap.size w3 wr)
  case atStart => exact ⟨0, by omega, rfl, rfl, Below.refl _ _⟩
  case round =>
    obtain ⟨k, hk, rfl, hta, hbw⟩ := hrel
    rename World => wr
    have HBW := Lib.hid hbw
    have HTA := Lib.hid hta
    have nlb : (n3 : Int) ≤ 512 := by have := HLN.out; omega
    by_cases hlt : k < n3
    · have hkl : k < l.length := by rw [HN3.out]; exact hlt
      obtain ⟨b3, of3, x3, y3, z3, A4, c4, rfl, hb3, hin3, k0, k1, k2, p3, k4, k5⟩ := nd_at (HR3.out.below hbw).all hkl
      obtain ⟨nd, hnd⟩ : ∃ nd, l[k]'hkl = nd := ⟨_, rfl⟩
      rw [hnd] at p3
      obtain ⟨m3, hm3⟩ : ∃ m3, nd.attrs.length = m3 := ⟨_, rfl⟩
      rw [hm3] at p3
      have bk : (0 : Int) ≤ (k : Int) ∧ (k : Int) < (n3 : Int) := by omega
      have htk : l.take (k + 1) = l.take k ++ [nd] := by rw [List.take_succ_eq_append_getElem hkl, hnd]
      have HTK := Lib.hid htk
      by_cases h16 : 16 < m3
      · have d1 : decide ((16 : Int) < (m3 : Int)) = true := decide_eq_true (by omega)
        have HQQ : Hid (qq = false) := Lib.hid (by
          rw [HALL.out]
          refine Bool.eq_false_iff.2 fun e => ?_
          have := List.all_eq_true.1 e nd (by rw [← hnd]; exact List.getElem_mem hkl)
          rw [decide_eq_true_eq, hm3] at this
          omega)
        clear k0 k1 k2 k4 k5 hin3 hnd hm3 htk hta hbw hkl
        go_wp2_with fail
        go_ret2
        rw [← HANS.out, HQQ.out]
        exact ⟨none, 0, rfl, fun _ => rfl, RdS.nil _ _ _, stp HB3.out HBW.out⟩
      · have d1 : decide ((16 : Int) < (m3 : Int)) = false := decide_eq_false (by omega)
        have HTB : Hid (((l.take (k + 1)).all fun m => decide (m.attrs.length ≤ 16)) = true) := Lib.hid (by
          rw [htk, List.all_append, hta]
          simp
          omega)
        clear k0 k1 k2 k4 k5 hin3 hnd hm3 htk hta hbw hkl
        go_wp2_with fail
        go_roundg (gk - 1)
        case rel => exact ⟨k + 1, by omega, by go_num, HTB.out, HBW.out⟩
        case measure => omega
    · obtain rfl : k = n3 := by omega
      have hkk : ¬ ((k : Int) < (k : Int)) := by omega
      have HQQ : Hid (qq = true) := Lib.hid (by
        rw [HALL.out]
        rw [List.take_of_length_le (by rw [HN3.out]; exact Nat.le_refl _)] at hta
        exact hta)
      clear hta hbw
      go_wp2_with fail
      go_ret2
      rw [← HANS.out, HQQ.out, if_pos rfl]
      refine ⟨A3, c3, ?_, HR3.out.nil, (HR3.out.below HBW.out).all, stp HB3.out HBW.out⟩
      show Ending.returned (.tuple #[.slice A3 _ c3, .int .i64 0]) = .returned (.tuple #[.slice A3 l.length c3, .int .i64 0])
      rw [HN3.out]

theorem rbare11 (A : Option Addr) (n c : Nat) (v : List Nd) (outer : ByteArray) (w : World) (hr : RdB NdS w A v) (hn : v.length = n) (hsm : ∀ m ∈ v, SmallN m) (hos : outer.size ≤ 1000000) (HMAY : ∀ W, Below w.heap.size w W → Calls Tryz.prog 28 #[.slice A n c] W fun e w' => e = .returned (.bool (mayS v)) ∧ Below W.heap.size W w') :
    Calls Tryz.prog 9 #[.slice A n c, .string outer] w (OtNo (bareR v outer.data.toList).1 (bareR v outer.data.toList).2 w) := by
  cases hm : mayS v with
  | false => exact rbare_no A n c v outer w hr hn hsm hos HMAY hm
  | true =>
    by_cases hc : chkE outer = 0
    · by_cases hx0 : outer.data.toList = ofXml
      · exact rbare_xml A n c v outer w hr hn hsm hos HMAY hm hc hx0
      · by_cases hx2 : outer.data.toList = ofXmlns
        · exact rbare_xns A n c v outer w hr hn hsm hos HMAY hm hc hx0 hx2
        · exact rbare_yes A n c v outer w hr hn hsm hos HMAY hm hc hx0 hx2
    · exact rbare_chk A n c v outer w hr hn hsm hos HMAY hm _ rfl hc

end Hx
end Go.Proofs.YteobcohjikjalaaGreatDoor
set_option linter.unusedSimpArgs false
namespace Go.Proofs.YteobcohjikjalaaGreatDoor
open Go.RowKit
namespace Hx
open Lx Tr Tx Nmb Es
set_option maxRecDepth 100000
set_option maxHeartbeats 16000000
set_option linter.unusedVariables false
def Sp3 (lo hi : Nat) (w0 : World) (A : Option Addr) (v : List Nd) (w : World) : Prop := Below lo w0 w ∧ (∀ k, hi ≤ k → w.heap[k]? = w0.heap[k]?) ∧
  (0 < v.length → ∃ b off, A = some ⟨b, off, none⟩ ∧ (lo ≤ b ∧ b < hi) ∧ (∀ o, w.frozen? ⟨b, o, none⟩ = false) ∧ ∀ i (h : i < v.length), ∃ A1 c1, w.cell? ⟨b, off + i * 6 + 3, none⟩ = some (.slice A1 (v[i]'h).attrs.length c1) ∧ (∃ m, w.cell? ⟨b, off + i * 6 + 2, none⟩ = some (.string m)) ∧
    (0 < (v[i]'h).attrs.length → ∃ b1 of1, A1 = some ⟨b1, of1, none⟩ ∧ (lo ≤ b1 ∧ b1 < hi) ∧ (∀ o, w.frozen? ⟨b1, o, none⟩ = false) ∧ ∀ k, k < (v[i]'h).attrs.length → ∃ s, w.cell? ⟨b1, of1 + k * 3 + 2, none⟩ = some (.string s)))
theorem Sp3.made {lo hi : Nat} {w : World} {A : Option Addr} {v : List Nd} (h2 : RdS NdS w (fun k => lo ≤ k ∧ k < hi ∧ ∀ o, w.frozen? ⟨k, o, none⟩ = false) A v) : Sp3 lo hi w A v w := by
  refine ⟨Below.refl _ _, fun _ _ => rfl, fun hp => ?_⟩
  obtain ⟨b, off, e, hS, hc⟩ := h2 hp
  refine ⟨b, off, e, ⟨hS.1, hS.2.1⟩, hS.2.2, fun i hi => ?_⟩
  obtain ⟨cs, ⟨x, y, z, A1, c1, rfl, hin⟩, hcell⟩ := hc i hi
  refine ⟨A1, c1, hcell 3 (by simp [ndCells]), ⟨_, hcell 2 (by simp [ndCells])⟩, fun hp2 => ?_⟩
  obtain ⟨b1, of1, e1, hS1, hc1⟩ := hin.attrs hp2
  refine ⟨b1, of1, e1, ⟨hS1.1, hS1.2.1⟩, hS1.2.2, fun k hk => ?_⟩
  obtain ⟨cs2, ⟨x2, y2, z2, rfl, _⟩, hcell2⟩ := hc1 k hk
  exact ⟨z2, hcell2 2 (by simp)⟩
theorem Sp3.of {w0 w1 w : World} {A : Option Addr} {v : List Nd} {c : Nat} (h : NdOut w0.heap.size w0 v A c w1) (hb : Below w1.heap.size w1 w) : Sp3 w0.heap.size w1.heap.size w A v w :=
  Sp3.made (h.rd.keep (fun k hk => ⟨hk.1, hk.2.1, fun o => (hb.frozen (p := ⟨k, o, none⟩) hk.2.1).trans (hk.2.2.2 hk.1 o)⟩) fun b o hk => hb.cell (p := ⟨b, o, none⟩) hk.2.1)
theorem sp3_other (w : World) (a : Addr) (q : Nat) (x : Value) (h : a.block < q) : (w.setCell a x).heap[q]? = w.heap[q]? := by
  unfold World.setCell
  dsimp only
  rw [Array.getElem?_modify, if_neg (by omega)]
theorem Sp3.set {lo hi : Nat} {w0 w : World} {A : Option Addr} {v : List Nd} (h : Sp3 lo hi w0 A v w) (a : Addr) (ha : lo ≤ a.block ∧ a.block < hi) (u u' : Value) (hu : w.cell? a = some u) (hk : (∃ s s', u = .string s ∧ u' = .string s') ∨ (∃ m m', u = .int .i64 m ∧ u' = .int .i64 m')) : Sp3 lo hi w0 A v (w.setCell a u') := by
  refine ⟨h.1.setCell ha.1 _, fun k hk => (sp3_other w a k u' (by omega)).trans (h.2.1 k hk), fun hp => ?_⟩
  obtain ⟨b, off, e, hB, hf, hc⟩ := h.2.2 hp
  refine ⟨b, off, e, hB, fun o => by rw [World.frozen?_setCell]; exact hf o, fun i hi => ?_⟩
  obtain ⟨A1, c1, h3, ⟨m, h5⟩, h6⟩ := hc i hi
  refine ⟨A1, c1, ?_, ?_, fun hp2 => ?_⟩
  · by_cases ea : a = ⟨b, off + i * 6 + 3, none⟩
    · subst ea
      rw [h3] at hu
      rcases hk with ⟨s, s', rfl, _⟩ | ⟨m, m', rfl, _⟩ <;> cases hu
    · rw [World.cell?_setCell_other _ _ _ _ ea]; exact h3
  · by_cases ea : a = ⟨b, off + i * 6 + 2, none⟩
    · subst ea
      rw [h5] at hu
      rcases hk with ⟨s, s', rfl, rfl⟩ | ⟨m1, m', rfl, _⟩
      · exact ⟨s', World.cell?_setCell_same _ _ _ h5⟩
      · cases hu
    · exact ⟨m, by rw [World.cell?_setCell_other _ _ _ _ ea]; exact h5⟩
  · obtain ⟨b1, of1, e1, hB1, hf1, hc1⟩ := h6 hp2
    refine ⟨b1, of1, e1, hB1, fun o => by rw [World.frozen?_setCell]; exact hf1 o, fun k hk2 => ?_⟩
    obtain ⟨s0, hs0⟩ := hc1 k hk2
    by_cases ea : a = ⟨b1, of1 + k * 3 + 2, none⟩
    · subst ea
      rw [hs0] at hu
      rcases hk with ⟨s, s', rfl, rfl⟩ | ⟨m1, m', rfl, _⟩
      · exact ⟨s', World.cell?_setCell_same _ _ _ hs0⟩
      · cases hu
    · exact ⟨s0, by rw [World.cell?_setCell_other _ _ _ _ ea]; exact hs0⟩
theorem Sp3.kept {w0 w1 w : World} {A : Option Addr} {v : List Nd} {c : Nat} (h : NdOut w0.heap.size w0 v A c w1) (hb : ∀ k, w0.heap.size ≤ k → k < w1.heap.size → w.heap[k]? = w1.heap[k]?) : Sp3 w0.heap.size w1.heap.size w A v w :=
  Sp3.made (h.rd.keep (fun k hk => ⟨hk.1, hk.2.1, fun o => (by have := hk.2.2.2 hk.1 o; unfold World.frozen? at this ⊢; rw [hb k hk.1 hk.2.1]; exact this)⟩) fun b o hk => World.cell?_of_block (hb b hk.1 hk.2.1))
theorem spoil3 (lo hi : Nat) (w0 : World) (A : Option Addr) (n c : Nat) (v : List Nd) (w : World) (h : Sp3 lo hi w0 A v w) (hn : v.length = n) (hm : n ≤ 1000000) (hat : ∀ x ∈ v, x.attrs.length ≤ 1000000) :
    Calls Tryz.prog 13 #[.slice A n c] w fun e w' => e = .returned (.tuple #[]) ∧ Below lo w0 w' ∧ ∀ k, hi ≤ k → w'.heap[k]? = w0.heap[k]? := by
  have H0 := Lib.hid h
  have HN := Lib.hid hn
  have HM := Lib.hid hm
  have HAT := Lib.hid hat
  clear h hn hm hat
  go_enter Tryz.func13, Tryz.ntmps13
  go_wp2_with fail
  go_loopg [2, 3] n (fun gg i x3 wr => ∃ k : Nat, k + gg = n ∧ i = .int .i64 k ∧ Sp3 lo hi w0 A v wr)
  case atStart => exact ⟨0, by omega, rfl, H0.out⟩
  case round =>
    obtain ⟨k, hk, rfl, hsp⟩ := hrel
    obtain ⟨ww, rfl⟩ : ∃ ww : World, ww = wr := ⟨_, rfl⟩
    obtain ⟨g0, rfl⟩ : ∃ g0 : Nat, g0 = gk := ⟨_, rfl⟩
    have HSP := Lib.hid hsp
    have hmm := HM.out
    by_cases hlt : k < n
    · have hk1 : k < v.length := by rw [HN.out]; exact hlt
      obtain ⟨b, off, rfl, -, -, -⟩ := hsp.2.2 (by omega)
      have hal := HAT.out _ (List.getElem_mem hk1)
      have bk : (0 : Int) ≤ (k : Int) ∧ (k : Int) < (n : Int) := by omega
      have HK1 := Lib.hid hk1
      have HGK := Lib.hid hk
      obtain ⟨m, hmv⟩ : ∃ m, (v[k]'hk1).attrs.length = m := ⟨_, rfl⟩
      have bm : (m : Int) ≤ 1000000 := by omega
      have HMV : Hid ((v[k]'HK1.out).attrs.length = m) := Lib.hid hmv
      clear hsp hmv hal hk
      go_wp2_with fail
      go_loopg [3] m (fun gg i wr => ∃ j : Nat, j + gg = m ∧ i = .int .i64 j ∧ Sp3 lo hi w0 (some ⟨b, off, none⟩) v wr)
      case atStart => exact ⟨0, by omega, rfl, HSP.out⟩
      case round =>
        obtain ⟨j, hj, rfl, hsp⟩ := hrel
        have HS2 := Lib.hid hsp
        obtain ⟨b', off', e, hB, hf, hc⟩ := hsp.2.2 (by have := HK1.out; omega)
        injection e with e
        injection e with e1 e2 _
        subst e1 e2
        obtain ⟨A1, c1, h3, ⟨mm, h5⟩, h6⟩ := hc k HK1.out
        rw [HMV.out] at h3 h6
        have HBB := Lib.hid hB
        have ff := hf (off + k * 6 + 2)
        by_cases hlj : j < m
        · obtain ⟨b1, of1, rfl, hB1, hf1, hc1⟩ := h6 (by omega)
          obtain ⟨s, hs⟩ := hc1 j hlj
          have fs := hf1 (of1 + j * 3 + 2)
          have bj : (0 : Int) ≤ (j : Int) ∧ (j : Int) < (m : Int) := by omega
          have HNX : Hid (Sp3 lo hi w0 (some ⟨b, off, none⟩) v (wr.setCell ⟨b1, of1 + j * 3 + 2, none⟩ (.string ⟨#[115, 112, 111, 105, 108, 116]⟩))) := Lib.hid (hsp.set _ hB1 _ _ hs (.inl ⟨_, _, rfl, rfl⟩))
          clear hsp hf hc hf1 hc1 h6 hB hB1 h5
          go_wp2_with fail
          go_roundg (gk - 1)
          case rel => exact ⟨j + 1, by omega, by go_num, HNX.out⟩
          case measure => omega
        · have HNX : Hid (Sp3 lo hi w0 (some ⟨b, off, none⟩) v (wr.setCell ⟨b, off + k * 6 + 2, none⟩ (.string ⟨#[115, 112, 111, 105, 108, 116]⟩))) := Lib.hid (hsp.set _ hB _ _ h5 (.inl ⟨_, _, rfl, rfl⟩))
          clear hsp hf hc h6 hB
          go_wp2_with fail
          go_roundg (g0 - 1)
          case rel => exact ⟨k + 1, by have := HGK.out; omega, by go_num, HNX.out⟩
          case measure => have := HGK.out; omega
    · have HBB := Lib.hid (And.intro hsp.1 hsp.2.1)
      clear hsp
      go_wp2_with fail
      go_end0
      exact ⟨rfl, HBB.out⟩
end Hx
end Go.Proofs.YteobcohjikjalaaGreatDoor
