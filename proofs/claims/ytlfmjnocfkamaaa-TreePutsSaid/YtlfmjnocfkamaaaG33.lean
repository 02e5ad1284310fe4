/-
  Texts of one seat, put together: TreZ.
-/
import Derived.Test.YtlfmjnocfkamaaaG27
import Derived.Test.YtlfmjnocfkamaaaG29
import Derived.Test.YtlfmjnocfkamaaaG32
namespace Go.Proofs.Ytlfmjnocfkamaaa
open Go.RowKit
namespace Hx
open Lx Tr Tx Nmb Es
set_option linter.unusedVariables false
theorem put10 (n : Nd) (x y z : ByteArray) (A : Option Addr) (c : Nat) (A2 : Option Addr) (m c2 : Nat) (ls : List (List Nd)) (w : World) (h : NdAt n x y z A c w) (hs : SmallN n) (hr : RdB (SlS NdS) w A2 ls) (hm : ls.length = m) (hmax : m ≤ 100000) (hsm : ∀ v ∈ ls, v.length ≤ 100000 ∧ ∀ b ∈ v, SmallN b) :
    Calls Try.prog 23 #[NdV n x y z A c, .slice A2 m c2] w (PutsTo n ls w) := by
  cases hv : mayV [withM n 0] with
  | false => exact put_no0 n x y z A c A2 m c2 ls w h hs hr hm hmax hsm hv
  | true =>
    cases hp : ls.all partOk with
    | false => exact put_no1 n x y z A c A2 m c2 ls w h hs hr hm hmax hsm hv hp
    | true => exact put_go n x y z A c A2 m c2 ls w h hs hr hm hmax hsm hv hp
theorem rput10 (n : Nd) (x y z : ByteArray) (A : Option Addr) (c : Nat) (A2 : Option Addr) (m c2 : Nat) (ls : List (List Nd)) (w : World) (h : NdAt n x y z A c w) (hs : SmallN n) (hr : RdB (SlS NdS) w A2 ls) (hm : ls.length = m) (hmax : m ≤ 100000) (hsm : ∀ v ∈ ls, v.length ≤ 100000 ∧ ∀ b ∈ v, SmallN b) :
    Calls Try.prog 24 #[NdV n x y z A c, .slice A2 m c2] w (PutsTo n ls w) := by
  cases hv : mayV [withM n 0] with
  | false => exact rput_no n x y z A c A2 m c2 ls w h hs hr hm hmax hsm hv
  | true => exact rput_go n x y z A c A2 m c2 ls w h hs hr hm hmax hsm hv
theorem PutsTo.with {n : Nd} {ls : List (List Nd)} {w w' : World} {e : Ending} {out : List Nd} {er : Int} {p : Nat} (h : PutsTo n ls w e w') (hp : putN n ls = (out, er)) (hl : out.length = p) : ∃ A c, e = .returned (.tuple #[.slice A p c, .int .i64 er]) ∧ NdOut w.heap.size w out A c w' ∧ Below w.heap.size w w' := by
  obtain ⟨o, r, A, c, h1, h2, h3, h4⟩ := h
  rw [hp] at h1
  obtain ⟨rfl, rfl⟩ := (Prod.mk.injEq _ _ _ _).mp h1
  exact ⟨A, c, by rw [← hl]; exact h2, h3, h4⟩
set_option maxHeartbeats 4000000 in
set_option maxRecDepth 100000 in
theorem puts_many (nd : Nd) (x y z : ByteArray) (A : Option Addr) (c : Nat) (a1 : Option Addr) (m cap1 : Nat) (w : World) (hm : 8 < m) :
    Calls Try.prog 4 #[NdV nd x y z A c, .slice a1 m cap1] w fun e w' => e = .returned (.bool true) ∧ Below w.heap.size w w' := by
  have f1 : decide ((8 : Int) < (m : Int)) = true := decide_eq_true (by omega)
  unfold NdV
  go_enter Try.func4, Try.ntmps4
  go_wp2_with fail
  go_ret
  exact ⟨rfl, (Below.refl _ _).alloc (Nat.le_refl _) _⟩
set_option maxHeartbeats 32000000 in
set_option maxRecDepth 100000 in
theorem puts_in (nd : Nd) (x y z : ByteArray) (A : Option Addr) (c : Nat) (a1 : Option Addr) (m cap1 : Nat) (ls : List (List Nd)) (w : World) (h : NdAt nd x y z A c w) (hr : RdB (SlS NdS) w a1 ls) (hn : ls.length = m) (hm : m ≤ 8) :
    Calls Try.prog 4 #[NdV nd x y z A c, .slice a1 m cap1] w fun e w' => e = .returned (.bool true) ∧ Below w.heap.size w w' := by
  obtain ⟨i0, hi, hz0, hz1, hz2⟩ := info_parts infoSl
  have HI := Lib.hid hi
  have HZ0 := Lib.hid hz0
  have HZ1 := Lib.hid hz1
  have HZ2 := Lib.hid hz2
  have hb0 : Below w.heap.size w (w.alloc (.cells #[.int .u8 (nd.kind : Int), .string x, .string y, .slice A nd.attrs.length c, .string z, .int .i64 nd.many] 53)) := stpA (Below.refl _ _) _
  have hrow : RdB NdS ((w.alloc (.cells #[.int .u8 (nd.kind : Int), .string x, .string y, .slice A nd.attrs.length c, .string z, .int .i64 nd.many] 53)).alloc (.cells #[.int .u8 (nd.kind : Int), .string x, .string y, .slice A nd.attrs.length c, .string z, .int .i64 nd.many] 53)) (some ⟨w.heap.size + 1, 0, none⟩) [nd] := by
    have := one_row (NdAt.on h hb0)
    rwa [World.size_alloc] at this
  have HG1 : Hid (Calls Try.prog 5 #[.slice (some ⟨w.heap.size + 1, 0, none⟩) 1 1, .int .i64 1, .int .i64 2000] ((w.alloc (.cells #[.int .u8 (nd.kind : Int), .string x, .string y, .slice A nd.attrs.length c, .string z, .int .i64 nd.many] 53)).alloc (.cells #[.int .u8 (nd.kind : Int), .string x, .string y, .slice A nd.attrs.length c, .string z, .int .i64 nd.many] 53)) (GreatTo [nd] 1 2000 ((w.alloc (.cells #[.int .u8 (nd.kind : Int), .string x, .string y, .slice A nd.attrs.length c, .string z, .int .i64 nd.many] 53)).alloc (.cells #[.int .u8 (nd.kind : Int), .string x, .string y, .slice A nd.attrs.length c, .string z, .int .i64 nd.many] 53)))) := Lib.hid (rgreat10 _ 1 1 [nd] 1 2000 _ hrow rfl (by decide) (by decide) (by decide))
  have HB2 : Hid (Below w.heap.size w ((w.alloc (.cells #[.int .u8 (nd.kind : Int), .string x, .string y, .slice A nd.attrs.length c, .string z, .int .i64 nd.many] 53)).alloc (.cells #[.int .u8 (nd.kind : Int), .string x, .string y, .slice A nd.attrs.length c, .string z, .int .i64 nd.many] 53))) := Lib.hid (stpA hb0 _)
  have HX2 : Hid (((w.alloc (.cells #[.int .u8 (nd.kind : Int), .string x, .string y, .slice A nd.attrs.length c, .string z, .int .i64 nd.many] 53)).alloc (.cells #[.int .u8 (nd.kind : Int), .string x, .string y, .slice A nd.attrs.length c, .string z, .int .i64 nd.many] 53)).heap[w.heap.size]? = some (.cells #[.int .u8 (nd.kind : Int), .string x, .string y, .slice A nd.attrs.length c, .string z, .int .i64 nd.many] 53 (0, 0))) := Lib.hid (kept_heap (heap_alloc_new w _) (stpA (Below.refl _ _) _))
  have HND := Lib.hid h
  have HR := Lib.hid hr
  have HN := Lib.hid hn
  have HM := Lib.hid hm
  have f1 : decide ((8 : Int) < (m : Int)) = false := decide_eq_false (by omega)
  have bm : (0 : Int) ≤ (m : Int) ∧ (m : Int) ≤ 8 := by omega
  unfold NdV
  clear hi hz0 hz1 hz2 hb0 hrow h hr hn hm
  go_enter Try.func4, Try.ntmps4
  go_wp2_with (first
    | (go_at_call 5; (with_reducible refine (HG1.out).mono ?_); rintro e1 w1 ⟨q1, rfl, hb1, hq1⟩; have HB1 := Lib.hid (stp HB2.out hb1); have HX1 := Lib.hid (kept_heap HX2.out hb1); have HQ1 := Lib.hid hq1; clear hb1 hq1)
    | fail)
  · go_ret
    exact ⟨rfl, HB1.out⟩
  · have hqf : q1 = false := by assumption
    subst hqf
    have HSN : Hid (SmallN nd) := Lib.hid (((HQ1.out rfl).2 nd (by simp)).small (by decide))
    obtain ⟨wa, rfl⟩ : ∃ wa : World, wa = w1 := ⟨_, rfl⟩
    go_loopg [5, 6] m (fun gg x5 i wr => ∃ L : List LB, L.length + gg = m ∧ i = .int .i64 L.length ∧ L.map LB.l = ls.take L.length ∧ (∀ v ∈ ls.take L.length, v.length ≤ 520 ∧ ∀ b ∈ v, SmallN b) ∧ LsSt wa L x5 wr)
    case atStart => exact ⟨[], by simp, rfl, rfl, (fun v hv => by simp at hv), World.ownsRow_nil _ _ _ _, (fun b hb => by cases hb), Below.refl _ _⟩
    case round =>
      obtain ⟨L, hk, rfl, hmap, hsm, hst⟩ := hrel
      obtain ⟨Ao, co, rfl⟩ := own_form2 hst.1
      have HST := Lib.hid hst
      have HSM := Lib.hid hsm
      have HMAP := Lib.hid hmap
      have hm := HM.out
      by_cases hlt : L.length < m
      · have hk1 : L.length < ls.length := by rw [HN.out]; exact hlt
        have HBW := Lib.hid (stp HB1.out hst.2.2)
        obtain ⟨b0, off, A1, c1, hA, hbB, hc, -, -, -, hrd⟩ := sl_at (HR.out.on HBW.out) hk1
        obtain ⟨v, hv⟩ : ∃ v, ls[L.length]'hk1 = v := ⟨_, rfl⟩
        rw [hv] at hc hrd
        obtain ⟨p, hp⟩ : ∃ p, v.length = p := ⟨_, rfl⟩
        rw [hp] at hc
        have hpm : p ≤ 9223372036854775807 := by
          obtain ⟨_, _, _, _, _, _, _, h8, h9, _⟩ := sl_at HR.out hk1
          rw [hv, hp] at h8
          unfold maxLen at h9
          omega
        have HGR : Hid (Calls Try.prog 5 #[.slice A1 p c1, .int .i64 520, .int .i64 2000] wr (GreatTo v 520 2000 wr)) := Lib.hid (rgreat10 A1 p c1 v 520 2000 wr hrd hp (by decide) (by decide) hpm)
        have HTW : Hid (∀ W, Below wr.heap.size wr W → (v.length ≤ 520 ∧ ∀ n ∈ v, NotGreat 2000 n) → Calls Try.prog 6 #[.slice A1 p c1] W fun e w' => ∃ A c, e = .returned (.slice A p c) ∧ NdOut W.heap.size W v A c w' ∧ Below W.heap.size W w') := Lib.hid fun W hW hq => (rtwin10 A1 p c1 v W (hrd.on hW) hp (by omega) (fun b hb => ((hq.2 b hb).small (by decide)).attrs)).mono fun e w' ⟨A, c, h1, h2, h3⟩ => ⟨A, c, by rw [← hp]; exact h1, h2, h3⟩
        have HCX : Hid (∀ W, Below wr.heap.size wr W → W.cell? ⟨b0, off + L.length, none⟩ = some (.slice A1 p c1)) := Lib.hid fun W hW => (hW.cell (p := ⟨b0, _, none⟩) hbB).trans hc
        have HNX : Hid ((L ++ [(⟨v, none, 0⟩ : LB)]).map LB.l = ls.take (L.length + 1)) := Lib.hid (by rw [List.map_append, hmap, List.take_succ_eq_append_getElem hk1, hv]; rfl)
        have HSM2 : Hid ((v.length ≤ 520 ∧ ∀ n ∈ v, NotGreat 2000 n) → ∀ u ∈ ls.take (L.length + 1), u.length ≤ 520 ∧ ∀ b ∈ u, SmallN b) := Lib.hid fun hq u hu => by
          rw [List.take_succ_eq_append_getElem hk1, hv] at hu
          rcases List.mem_append.1 hu with hu | hu
          · exact hsm u hu
          · rw [List.mem_singleton] at hu
            subst hu
            exact ⟨hq.1, fun b hb => (hq.2 b hb).small (by decide)⟩
        have HPV := Lib.hid hp
        have HKG := Lib.hid hk
        have HBB := Lib.hid hbB
        have HROW : Hid (∀ k, (Value.slice Ao L.length co).ownBlock = some k → k < wr.heap.size) := Lib.hid fun k hk => (hst.1.lt k hk).2
        have bk : (0 : Int) ≤ (L.length : Int) ∧ (L.length : Int) < (m : Int) := by omega
        subst hA
        clear hst hmap hsm hrd hv hp hk1 hk hbB
        go_wp2_with (first
          | (go_at_call 5; (with_reducible refine (HGR.out).mono ?_); rintro e2 w2 ⟨q2, rfl, hb2, hq2⟩; have HB2' := Lib.hid hb2; have HQ2 := Lib.hid hq2; have d1 := HCX.out w2 hb2; clear hb2 hq2)
          | (have hqf2 : q2 = false := by assumption
             go_at_call 6; (with_reducible refine (HTW.out _ HB2'.out (HQ2.out hqf2)).mono ?_); rintro e3 w3 ⟨A4, c4, rfl, ho3, hb3⟩; have HO3 := Lib.hid ho3; have HB3 := Lib.hid (stp HB2'.out hb3); clear ho3 hb3)
          | (at_builtin; refine wpList_append_own_at _ rfl (.tmp 32) (.tmp 38) 54 rfl wa.heap.size 22 i0 (.slice none 0 0) 1 24 Try.underlying54 HI.out HZ0.out HZ1.out HZ2.out rfl (by decide) _ L.length _ rfl (own_belowK HST.out.1 (stpA HB3.out _) (Nat.le_refl _)) ⟨w3.heap.size, 0, none⟩ 1 1 [.slice A4 p c4] rfl rfl (new_at w3 [.slice A4 p c4] 22 _ rfl) (by simp [Value.oneCell']) (by unfold maxLen; omega) (by omega) (by have := HST.out.2.2.size; have := HB3.out.size; simp; omega) ?_; intro v5 w5 hown5 hgr5 _ hlie; obtain ⟨A5, c5', rfl⟩ := own_form2 hown5; have HX5 := Lib.hid (LsSt.more (b0 := ⟨v, A4, c4⟩) HST.out (stpA HB3.out (.cells #[.slice A4 p c4] 22)) (by have h9 := (HO3.out.below (stpA (Below.refl w3.heap.size w3) (.cells #[.slice A4 p c4] 22))); exact NdOut.far h9 (Nat.le_trans HST.out.2.2.size HB2'.out.size) (fun k hk => Nat.lt_of_lt_of_le (HROW.out k hk) HB2'.out.size)) (by rw [HPV.out]; exact hown5) hgr5 hlie); clear hown5 hgr5 hlie)
          | fail)
        · go_ret
          exact ⟨rfl, stp HBW.out HB2'.out⟩
        · have hqf2 : q2 = false := by assumption
          have HS9 := Lib.hid (HSM2.out (HQ2.out hqf2))
          go_roundg (gk - 1)
          case rel => exact ⟨L ++ [⟨v, A4, c4⟩], by have := HKG.out; rw [List.length_append]; simp; omega, by simp, by rw [List.length_append, List.map_append]; have h9 := HNX.out; rw [List.map_append] at h9; exact h9, by rw [List.length_append]; exact HS9.out, HX5.out⟩
          case measure => have := HKG.out; omega
      · obtain ⟨r1, r2⟩ := hst.read
        have hLm : L.length = m := by omega
        have hls : L.map LB.l = ls := by rw [hmap, hLm, ← HN.out]; exact List.take_length
        rw [hls] at r1
        have hsm2 : ∀ v ∈ ls, v.length ≤ 520 ∧ ∀ b ∈ v, SmallN b := by
          intro v hv
          refine hsm v ?_
          rw [hLm, ← HN.out, List.take_length]
          exact hv
        have hsm3 : ∀ v ∈ ls, v.length ≤ 100000 ∧ ∀ b ∈ v, SmallN b := fun v hv => ⟨Nat.le_trans (hsm2 v hv).1 (by decide), (hsm2 v hv).2⟩
        have HBW := Lib.hid (stp HB1.out hst.2.2)
        obtain ⟨out, er, hput⟩ : ∃ out er, putN nd ls = (out, er) := ⟨_, _, rfl⟩
        obtain ⟨p, hpo⟩ : ∃ p, out.length = p := ⟨_, rfl⟩
        have hsmo := putN_small hput HSN.out (fun v hv => (hsm2 v hv).2)
        have hp5 : p ≤ 512 := by rw [← hpo]; exact hsmo.2
        have HLM := Lib.hid hLm
        have HP1 := Lib.hid ((put10 nd x y z A c Ao L.length co ls wr (HND.out.on HBW.out) HSN.out r1 (by rw [HN.out, hLm]) (by omega) hsm3).mono fun e w' h => h.with hput hpo)
        have HP2 : Hid (∀ W, Below wr.heap.size wr W → Calls Try.prog 24 #[NdV nd x y z A c, .slice a1 m cap1] W fun e w' => ∃ A c, e = .returned (.tuple #[.slice A p c, .int .i64 er]) ∧ NdOut W.heap.size W out A c w' ∧ Below W.heap.size W w') := Lib.hid fun W hW => (rput10 nd x y z A c a1 m cap1 ls W (HND.out.on (stp HBW.out hW)) HSN.out (HR.out.on (stp HBW.out hW)) HN.out (by omega) hsm3).mono fun e w' h => h.with hput hpo
        have HSA : Hid (∀ A5 c5 A6 c6 W, RdB NdS W A5 out → RdB NdS W A6 out → Calls Try.prog 18 #[.slice A5 p c5, .slice A6 p c6] W fun e w' => e = .returned (.bool true) ∧ Below W.heap.size W w') := Lib.hid fun A5 c5 A6 c6 W h5 h6 => rsame10 A5 A6 p c5 p c6 out out W h5 hpo h6 hpo (by omega) (by omega) (fun t ht => (hsmo.1 t ht).attrs) (fun t ht => (hsmo.1 t ht).attrs) true (decide_eq_true rfl)
        have HSP : Hid (∀ A5 c5 W2 W, NdOut wr.heap.size wr out A5 c5 W2 → Below wr.heap.size wr W2 → Below W2.heap.size W2 W → Calls Try.prog 22 #[.slice A5 p c5] W fun e w' => e = .returned (.tuple #[]) ∧ Below wr.heap.size wr w') := Lib.hid fun A5 c5 W2 W ho hb2 hb3 => spoil10 wr A5 p c5 out W (Sp.of (ho.below hb3) (stp hb2 hb3)) hpo (by omega) (fun t ht => (hsmo.1 t ht).attrs)
        have HOWN : Hid (∀ W, Below wr.heap.size wr W → RdB (SlS NdS) W Ao ls) := Lib.hid fun W hW => r1.on hW
        have HARG : Hid (∀ W, Below wr.heap.size wr W → RdB (SlS NdS) W a1 ls) := Lib.hid fun W hW => HR.out.on (stp HBW.out hW)
        have HX5 := Lib.hid (kept_heap HX1.out hst.2.2)
        have HSM3 := Lib.hid hsm3
        have fe : (er == er) = true := by simp
        unfold NdV at HP1 HP2
        clear hst hmap hsm r1 r2 hLm hls hsm2 hsm3 hput hpo hsmo hp5 hk
        go_wp2_with (first
          | (refine wpList_load_row rfl _ _ rfl w.heap.size rfl 53 #[.int .u8 (nd.kind : Int), .string x, .string y, .slice A nd.attrs.length c, .string z, .int .i64 nd.many] (0, 0) _ HX5.out Try.underlying53 rfl infoNdS ?_)
          | (go_at_call 23; (with_reducible refine (HP1.out).mono ?_); rintro e5 w5 ⟨A5, c5, rfl, ho5, hb5⟩; have HO5 := Lib.hid ho5; have HB5 := Lib.hid hb5; have HX6 := Lib.hid (kept_heap HX5.out hb5); clear ho5 hb5)
          | (refine wpList_load_row rfl _ _ rfl w.heap.size rfl 53 #[.int .u8 (nd.kind : Int), .string x, .string y, .slice A nd.attrs.length c, .string z, .int .i64 nd.many] (0, 0) _ HX6.out Try.underlying53 rfl infoNdS ?_)
          | (go_at_call 24; (with_reducible refine (HP2.out _ HB5.out).mono ?_); rintro e6 w6 ⟨A6, c6, rfl, ho6, hb6⟩; have HO6 := Lib.hid ho6; have HB6 := Lib.hid hb6; clear ho6 hb6)
          | (go_at_call 18; (with_reducible refine (HSA.out A5 c5 A6 c6 _ (HO5.out.below HB6.out).all HO6.out.all).mono ?_); rintro e7 w7 ⟨rfl, hb7⟩; have HB7 := Lib.hid (stp HB6.out hb7); clear hb7)
          | (go_at_call 22; (with_reducible refine (HSP.out A5 c5 _ _ HO5.out HB5.out HB7.out).mono ?_); rintro e8 w8 ⟨rfl, hb8⟩; have HB8 := Lib.hid hb8; clear hb8)
          | fail)
        obtain ⟨wq, rfl⟩ : ∃ wq : World, wq = wr := ⟨_, rfl⟩
        go_loopg [11, 12] m (fun gg x11 i wr => ∃ k : Nat, k + gg = m ∧ i = .int .i64 k ∧ x11 = .bool true ∧ Below wq.heap.size wq wr)
        case atStart => exact ⟨0, by omega, rfl, rfl, HB8.out⟩
        case round =>
          obtain ⟨k, hk, rfl, rfl, hbw⟩ := hrel
          have HBQ := Lib.hid hbw
          by_cases hlt : k < m
          · have hk1 : k < ls.length := by rw [HN.out]; exact hlt
            obtain ⟨b0, off, A1, c1, hA, hbB, hc, -, -, -, hrd⟩ := sl_at (HOWN.out _ hbw) hk1
            obtain ⟨b2, of2, A2, c2, hA2, hbB2, hc2, -, -, -, hrd2⟩ := sl_at (HARG.out _ hbw) hk1
            obtain ⟨v, hv⟩ : ∃ v, ls[k]'hk1 = v := ⟨_, rfl⟩
            have hsv := HSM3.out _ (List.getElem_mem hk1)
            rw [hv] at hc hrd hc2 hrd2 hsv
            obtain ⟨p9, hp9⟩ : ∃ p9, v.length = p9 := ⟨_, rfl⟩
            rw [hp9] at hc hc2
            have HS9 : Hid (Calls Try.prog 18 #[.slice A1 p9 c1, .slice A2 p9 c2] wr.drew fun e w' => e = .returned (.bool true) ∧ Below wr.drew.heap.size wr.drew w') := Lib.hid (rsame10 A1 A2 p9 c1 p9 c2 v v wr.drew (hrd.on (Below.refl _ _).drew) hp9 (hrd2.on (Below.refl _ _).drew) hp9 (by omega) (by omega) (fun t ht => (hsv.2 t ht).attrs) (fun t ht => (hsv.2 t ht).attrs) true (decide_eq_true rfl))
            have bk : (0 : Int) ≤ (k : Int) ∧ (k : Int) < (m : Int) := by omega
            have bk2 : (k : Int) < (L.length : Int) := by have := HLM.out; omega
            have HKG := Lib.hid hk
            subst hA hA2
            clear hrd hrd2 hsv hv hk1 hp9 hbw hk
            go_wp2_with fail
            go_region_held3 (fun w' => w'.cell? ⟨b0, off + k, none⟩ = some (.slice A1 p9 c1) ∧ w'.cell? ⟨b2, of2 + k, none⟩ = some (.slice A2 p9 c2))
              (first | go_keep | exact ⟨(hb9.cell hbB).trans hc, (hb9.cell hbB2).trans hc2⟩)
              ((go_at_call 18; (with_reducible refine (HS9.out).mono ?_); rintro e9 w9 ⟨rfl, hb9⟩))
            go_wp2_with fail
            go_roundg (gk - 1)
            case rel => exact ⟨k + 1, by have := HKG.out; omega, by go_num, rfl, stp HBQ.out (Below.trans (Below.refl _ _).drew (hb9.mono (Nat.le_refl _)))⟩
            case measure => have := HKG.out; omega
          · go_wp2_with fail
            go_ret
            exact ⟨rfl, stp HBW.out hbw⟩
end Hx
end Go.Proofs.Ytlfmjnocfkamaaa
