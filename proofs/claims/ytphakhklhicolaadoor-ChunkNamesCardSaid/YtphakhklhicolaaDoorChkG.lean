/-
  Package chunk as it landed: Encode.
-/
import Derived.Test.YtphakhklhicolaaDoorChkC
import Derived.Test.YtphakhklhicolaaDoorChkL
namespace Go.Proofs.YtphakhklhicolaaDoor
open Go.RowKit
namespace Ck
/-- May the sizes be those of all chunks of so many bytes? -/
def fitR (a : Int) : List Int → Bool
  | [] => decide (a = 0)
  | x :: t => if x < 1 ∨ a < x then false else fitR (a - x) t
theorem fit_len : ∀ (l : List Int) (a : Int), fitR a l = true → (l.length : Int) ≤ a
  | [], a, h => by
    unfold fitR at h
    have := of_decide_eq_true h
    simp; omega
  | x :: t, a, h => by
    unfold fitR at h
    split at h
    · cases h
    · have := fit_len t _ h
      rw [List.length_cons]
      omega
theorem fit_no (body : List UInt8) : ∀ (l : List Int) (a : Nat) (acc : List UInt8), a ≤ body.length → fitR ((body.length : Int) - (a : Int)) l = false → encF body a acc l = ([], 2)
  | [], a, acc, ha, h => by
    unfold fitR at h
    have := of_decide_eq_false h
    unfold encF
    rw [if_neg (by omega)]
  | x :: t, a, acc, ha, h => by
    unfold fitR at h
    unfold encF
    by_cases hx : x < 1 ∨ (body.length : Int) - (a : Int) < x
    · rw [if_pos hx]
    · rw [if_neg hx] at h ⊢
      refine fit_no body t (a + x.toNat) _ (by omega) ?_
      rw [← h]
      congr 1
      omega
/-- What Encode answers, told by the sizes' fitting. -/
theorem enc_no {body : List UInt8} {l : List Int} (h : 8192 < body.length ∨ fitR body.length l = false) : encR body l = ([], 2) := by
  unfold encR
  by_cases h1 : 8192 < body.length ∨ body.length < l.length
  · rw [if_pos h1]
  · rw [if_neg h1]
    refine fit_no body l 0 [] (Nat.zero_le _) ?_
    rw [← h.resolve_left (fun k => h1 (.inl k))]
    congr 1 <;> omega
theorem enc_yes {body : List UInt8} {l : List Int} (h1 : ¬ 8192 < body.length) (h : fitR body.length l = true) : encR body l = encF body 0 [] l := by
  unfold encR
  have := fit_len l _ h
  rw [if_neg (by omega)]
end Ck
namespace Hx
open Ck
set_option linter.unusedVariables false
set_option linter.unusedSimpArgs false

set_option maxHeartbeats 8000000 in
set_option maxRecDepth 100000 in
theorem fit16 (A : Option Addr) (n c : Nat) (l : List Int) (a : Nat) (q : Bool) (w : World) (hr : RdG encI w w.heap.size A l) (hn : l.length = n) (hm : n ≤ 1000000000000) (ha : a ≤ 1000000000000) (h : decide (¬ 8192 < a ∧ fitR a l = true) = q) :
    Calls Tryd.prog 15 #[.slice A n c, .int .i64 (a : Int)] w fun e w' => e = .returned (.bool q) ∧ Below w.heap.size w w' := by
  have HR := Lib.hid hr
  have HN := Lib.hid hn
  by_cases h1 : 8192 < a
  · have d0 : decide ((8192 : Int) < (a : Int)) = true := decide_eq_true (by omega)
    obtain rfl : false = q := by rw [← h]; exact (decide_eq_false (fun k => k.1 h1)).symm
    clear hr hn h
    go_enter Tryd.func15, Tryd.ntmps15
    go_wp2_with fail
    go_ret
    exact ⟨rfl, Below.refl _ _⟩
  have d0 : decide ((8192 : Int) < (a : Int)) = false := decide_eq_false (by omega)
  have HQ : Hid (fitR a l = q) := Lib.hid (by rw [← h]; cases fitR a l <;> simp [h1])
  clear hr hn h
  go_enter Tryd.func15, Tryd.ntmps15
  go_wp2_with fail
  go_loopg [1, 6, 11] n (fun gg x1 x6 x11 wr => ∃ (k z : Nat), k + gg = n ∧ x1 = .int .i64 z ∧ x11 = .int .i64 k ∧ z ≤ 8192 ∧ fitR z (l.drop k) = q ∧ Below w.heap.size w wr)
  case atStart => exact ⟨0, a, by omega, rfl, rfl, by omega, HQ.out, Below.refl _ _⟩
  case round =>
    obtain ⟨k, z, hk, rfl, rfl, hz, hq, hbw⟩ := hrel
    have HBW := Lib.hid hbw
    by_cases hlt : k < n
    · have hkl : k < l.length := by rw [HN.out]; exact hlt
      obtain ⟨b0, off, rfl, hb0, hc⟩ := HR.out (by omega)
      have hcell := (hbw.cell (p := ⟨b0, off + k, none⟩) hb0).trans (hc k hkl)
      obtain ⟨x, hx⟩ : ∃ x, l[k]'hkl = x := ⟨_, rfl⟩
      rw [hx] at hcell
      have c1 : wr.cell? ⟨b0, off + k, none⟩ = some (.int .i64 x) := hcell
      have bk : (0 : Int) ≤ (k : Int) ∧ (k : Int) < (n : Int) := by omega
      have dl : decide ((k : Int) < (n : Int)) = true := decide_eq_true (by omega)
      rw [List.drop_eq_getElem_cons hkl, hx] at hq
      unfold fitR at hq
      by_cases hx1 : x < 1
      · have e1 : decide (x < 1) = true := decide_eq_true hx1
        rw [if_pos (.inl hx1)] at hq
        subst hq
        clear hcell hc hx hbw hb0 HR
        go_wp2_with fail
        go_ret
        exact ⟨rfl, HBW.out⟩
      have e1 : decide (x < 1) = false := decide_eq_false hx1
      by_cases hx2 : (z : Int) < x
      · have e2 : decide ((z : Int) < x) = true := decide_eq_true hx2
        rw [if_pos (.inr hx2)] at hq
        subst hq
        clear hcell hc hx hbw hb0 HR
        go_wp2_with fail
        go_ret
        exact ⟨rfl, HBW.out⟩
      have e2 : decide ((z : Int) < x) = false := decide_eq_false hx2
      rw [if_neg (by omega)] at hq
      obtain ⟨m, rfl⟩ : ∃ m : Nat, x = (m : Int) := ⟨x.toNat, by omega⟩
      obtain ⟨z1, hz1⟩ : ∃ z1, z - m = z1 := ⟨_, rfl⟩
      have e3 : (z : Int) - (m : Int) = (z1 : Int) := by omega
      rw [e3] at hq
      have HQ1 := Lib.hid hq
      have HZ1 : Hid (z1 ≤ 8192) := Lib.hid (by omega)
      have bz1 : (0 : Int) ≤ (z1 : Int) ∧ (z1 : Int) ≤ 8192 := by omega
      clear hcell hc hx hbw hb0 HR hq
      go_wp2_with fail
      go_roundg (gk - 1)
      case rel => exact ⟨k + 1, z1, by omega, rfl, by go_num, HZ1.out, HQ1.out, HBW.out⟩
      case measure => omega
    · obtain rfl : k = n := by omega
      have dl : decide ((k : Int) < (k : Int)) = false := decide_eq_false (by omega)
      rw [List.drop_of_length_le (by rw [HN.out]; exact Nat.le_refl _)] at hq
      unfold fitR at hq
      have e0 : ((z : Int) == 0) = q := by rw [← hq, Bool.eq_iff_iff]; simp
      clear hbw HR hq
      go_wp2_with fail
      go_ret
      exact ⟨rfl, HBW.out⟩

theorem chunk_len {d : List UInt8} (h0 : d ≠ []) (h : d.length ≤ 8192) : (chunkL d).length ≤ 12 * d.length := by
  have h1 := hexL_len 4 d.length (by omega)
  have h2 := List.length_pos_iff.2 h0
  unfold chunkL
  simp only [List.length_append, List.length_cons, List.length_nil]
  omega
/-- append(own, s...) of a text. -/
theorem append_str16 {w : World} {ops : Array Oper} {rest : List Oper} {o : Oper} {a : Act} {Q : Exit → Act → World → Prop} (hgd : o.guard = none) (sl x : Operand)
    (ho : o.op = .call { callee := .builtin .append, args := #[sl, x], argTypes := #[29, 9] })
    (base : Nat) (v : Value) (acc : List UInt8) (n : Nat) (hn : acc.length = n) (hs : a.eval sl = v) (hown : w.ownsRow base 5 1 v n (Lib.byteCells acc)) (s : ByteArray) (hx : a.eval x = .string s)
    (hb : n + s.size ≤ 1000000000000) (hbase : base ≤ w.heap.size)
    (h : ∀ v' w', w'.ownsRow base 5 1 v' (n + s.size) (Lib.byteCells (acc ++ s.data.toList)) → w.grownBy w' v.ownBlock → wpList Tryd.prog ops Q rest (a.put o.dst v') w') : wpList Tryd.prog ops Q (o :: rest) a w := by
  obtain ⟨i0, hi, hz0, hz1, hz2⟩ := info_parts infoU8c
  refine Lib.wpList_append_own_string w hgd sl x 29 9 ho base 5 i0 Tryd.underlying29 Tryd.underlying9 hi hz0 hz1 hz2 v n _ hs hown s hx (by unfold maxLen; omega) (by omega) hbase (fun v' w' h1 h2 _ => h v' w' ?_ h2)
  rw [Lib.byteCells_append]
  exact h1
set_option maxHeartbeats 8000000 in
set_option maxRecDepth 100000 in
theorem encode16 (A : Option Addr) (n c : Nat) (l : List Int) (body t : ByteArray) (er : Int) (w : World) (hr : RdG encI w w.heap.size A l) (hn : l.length = n) (hm : n ≤ 1000000000000) (hbm : body.size ≤ 1000000000000) (hT : Tb w) (hinv : encR body.data.toList l = (t.data.toList, er)) :
    Calls Tryd.prog 10 #[.string body, .slice A n c] w fun e w' => e = .returned (.tuple #[.string t, .int .i64 er]) ∧ Below w.heap.size w w' := by
  have HR := Lib.hid hr
  have HN := Lib.hid hn
  have hbl := ba_len7 body
  cases hq : decide (¬ 8192 < body.size ∧ fitR body.size l = true) with
  | false =>
    have HF := Lib.hid (fit16 A n c l body.size false w hr hn hm hbm hq)
    have hno := of_decide_eq_false hq
    rw [enc_no (by
      rw [hbl]
      by_cases h1 : 8192 < body.size
      · exact .inl h1
      · right
        cases h2 : fitR body.size l with
        | false => rfl
        | true => exact absurd ⟨h1, h2⟩ hno)] at hinv
    obtain ⟨z1, z4⟩ := (Prod.mk.injEq _ _ _ _).mp hinv
    obtain rfl : (⟨#[]⟩ : ByteArray) = t := ba_ext7 z1
    subst z4
    clear z1 hr hn hno hq hinv
    go_enter Tryd.func10, Tryd.ntmps10
    go_wp2_with (first
      | (go_at_call 15; (with_reducible refine (HF.out).mono ?_); rintro e1 w1 ⟨rfl, hb1⟩)
      | fail)
    go_ret2
    exact ⟨rfl, hb1⟩
  | true =>
    have HF := Lib.hid (fit16 A n c l body.size true w hr hn hm hbm hq)
    obtain ⟨h8, hft⟩ := of_decide_eq_true hq
    rw [enc_yes (by rw [hbl]; exact h8) (by rw [hbl]; exact hft)] at hinv
    have HH := Lib.hid hinv
    have HFT := Lib.hid hft
    have HTT := Lib.hid hT
    clear hr hn hq hinv hft hT
    go_enter Tryd.func10, Tryd.ntmps10
    go_wp2_with (first
      | (go_at_call 15; (with_reducible refine (HF.out).mono ?_); rintro e1 w1 ⟨rfl, hb1⟩)
      | fail)
    go_loopg [0, 6, 8, 16] n (fun gg x0 x6 x8 x16 wr => ∃ (k a : Nat) (rest : ByteArray) (acc : List UInt8), k + gg = n ∧ x0 = .string rest ∧ x16 = .int .i64 k ∧ a ≤ body.size ∧ rest.size + a = body.size ∧ rest.data.toList = body.data.toList.drop a ∧ acc.length ≤ 12 * a ∧ fitR rest.size (l.drop k) = true ∧ encF body.data.toList a acc (l.drop k) = (t.data.toList, er) ∧ wr.ownsRow w.heap.size 5 1 x6 acc.length (Lib.byteCells acc) ∧ Below w.heap.size w wr)
    case atStart => exact ⟨0, 0, body, [], by omega, rfl, rfl, Nat.zero_le _, rfl, rfl, Nat.le_refl _, HFT.out, HH.out, World.ownsRow_nil _ _ _ _, hb1⟩
    case round =>
      obtain ⟨k, a, rest, acc, hk, rfl, rfl, ha, hra, hrd, hacc, hfit, hinv, hown, hbw⟩ := hrel
      have HBW := Lib.hid hbw
      have hsz := hbw.size
      by_cases hlt : k < n
      · have hkl : k < l.length := by rw [HN.out]; exact hlt
        obtain ⟨b0, off, rfl, hb0, hc⟩ := HR.out (by omega)
        have hcell := (hbw.cell (p := ⟨b0, off + k, none⟩) hb0).trans (hc k hkl)
        obtain ⟨x, hx⟩ : ∃ x, l[k]'hkl = x := ⟨_, rfl⟩
        rw [hx] at hcell
        rw [List.drop_eq_getElem_cons hkl, hx] at hinv hfit
        unfold fitR at hfit
        have hx12 : ¬ (x < 1 ∨ (rest.size : Int) < x) := fun h => by rw [if_pos h] at hfit; cases hfit
        rw [if_neg hx12] at hfit
        unfold encF at hinv
        rw [hbl, if_neg (by omega)] at hinv
        obtain ⟨m, rfl⟩ : ∃ m : Nat, x = (m : Int) := ⟨x.toNat, by omega⟩
        rw [Int.toNat_natCast] at hinv
        have hm8 : m ≤ 8192 := by omega
        have c1 : wr.cell? ⟨b0, off + k, none⟩ = some (.int .i64 (m : Int)) := hcell
        have bk : (0 : Int) ≤ (k : Int) ∧ (k : Int) < (n : Int) := by omega
        have bm : (0 : Int) ≤ (m : Int) ∧ (m : Int) ≤ (rest.size : Int) := by omega
        have dl : decide ((k : Int) < (n : Int)) = true := decide_eq_true (by omega)
        obtain ⟨d, hd⟩ : ∃ d, rest.extract 0 m = d := ⟨_, rfl⟩
        obtain ⟨r2, hr2⟩ : ∃ r2, rest.extract m rest.size = r2 := ⟨_, rfl⟩
        have hdl : d.data.toList = (body.data.toList.drop a).take m := by rw [← hd, Lib.extract_data, List.drop_zero, Nat.sub_zero, hrd]
        have hr2l : r2.data.toList = body.data.toList.drop (a + m) := by
          rw [← hr2, Lib.extract_data, hrd, List.drop_drop, List.take_of_length_le]
          rw [List.length_drop, hbl]; omega
        have hds : d.size = m := by rw [← ba_len7, hdl, List.length_take, List.length_drop, hbl]; omega
        have hr2s : r2.size + (a + m) = body.size := by rw [← ba_len7, hr2l, List.length_drop, hbl]; omega
        have HT := Lib.hid (aint16 m w.heap.size acc _ wr (by omega) hm8 (by omega) hown hsz (HTT.out.to hbw HTT.out.lt))
        have hxl := hexL_len 4 m (by omega)
        obtain ⟨n1, hn1⟩ : ∃ n1, (acc ++ hexL m).length = n1 := ⟨_, rfl⟩
        have hn1' := hn1
        rw [List.length_append] at hn1'
        have hck : acc ++ hexL m ++ [13, 10] ++ d.data.toList ++ [13, 10] = acc ++ chunkL d.data.toList := by
          unfold chunkL
          rw [ba_len7, hds]
          simp
        have HCK := Lib.hid hck
        have hclen : (acc ++ chunkL d.data.toList).length = n1 + 2 + m + 2 := by
          rw [← hck]
          simp only [List.length_append, List.length_cons, List.length_nil, ba_len7, hds] at hn1' ⊢
          omega
        have HCL := Lib.hid hclen
        have HF1 : Hid (fitR r2.size (l.drop (k + 1)) = true) := Lib.hid (by rw [← hfit]; congr 1; omega)
        have HI1 : Hid (encF body.data.toList (a + m) (acc ++ chunkL d.data.toList) (l.drop (k + 1)) = (t.data.toList, er)) := Lib.hid (by rw [← hinv, hdl])
        have HA1 : Hid ((acc ++ chunkL d.data.toList).length ≤ 12 * (a + m)) := Lib.hid (by rw [hclen]; omega)
        have HAM : Hid (a + m ≤ body.size ∧ r2.size + (a + m) = body.size ∧ r2.data.toList = body.data.toList.drop (a + m)) := Lib.hid ⟨by omega, hr2s, hr2l⟩
        have HN1 := Lib.hid hn1
        have hn1s : n1 ≤ 1000000 := by omega
        clear hcell hc hx hbw hb0 HR hinv hown hfit hdl hr2l hrd hck hclen hn1 hn1'
        go_wp2_with (first
          | (go_at_call 16; (with_reducible refine (HT.out).mono ?_); rintro e2 w2 ⟨v2, rfl, ho2, hb2⟩; rw [HN1.out] at ho2; have HO2 := Lib.hid ho2; have hs2 := Nat.le_trans hsz hb2.size; have HB2 : Hid (Below w.heap.size w w2) := Lib.hid (HBW.out.trans hb2); clear ho2 hb2)
          | (at_builtin; refine append_str16 rfl (.tmp 23) (.const (.string ⟨#[13, 10]⟩)) rfl w.heap.size _ (acc ++ hexL m) n1 HN1.out rfl HO2.out ⟨#[13, 10]⟩ rfl (by show n1 + 2 ≤ _; omega) hs2 ?_; intro v3 w3 ho3 hg3; have HB3 : Hid (Below w.heap.size w w3) := Lib.hid (HB2.out.grown hg3 hs2 (fun g hg => (HO2.out.lt g hg).1)); have hs3 := HB3.out.size; have HO3 : Hid (w3.ownsRow w.heap.size 5 1 v3 (n1 + 2) (Lib.byteCells (acc ++ hexL m ++ [13, 10]))) := Lib.hid ho3; clear ho3 hg3)
          | (at_builtin; refine append_str16 rfl (.tmp 25) (.tmp 28) rfl w.heap.size _ (acc ++ hexL m ++ [13, 10]) (n1 + 2) (by rw [List.length_append, HN1.out]; rfl) rfl HO3.out d rfl (by omega) hs3 ?_; intro v4 w4 ho4 hg4; have HB4 : Hid (Below w.heap.size w w4) := Lib.hid (HB3.out.grown hg4 hs3 (fun g hg => (HO3.out.lt g hg).1)); have hs4 := HB4.out.size; have HO4 : Hid (w4.ownsRow w.heap.size 5 1 v4 (n1 + 2 + m) (Lib.byteCells (acc ++ hexL m ++ [13, 10] ++ d.data.toList))) := Lib.hid (by rw [hds] at ho4; exact ho4); clear ho4 hg4)
          | (at_builtin; refine append_str16 rfl (.tmp 30) (.const (.string ⟨#[13, 10]⟩)) rfl w.heap.size _ (acc ++ hexL m ++ [13, 10] ++ d.data.toList) (n1 + 2 + m) (by rw [List.length_append, List.length_append, HN1.out, ba_len7, hds]; rfl) rfl HO4.out ⟨#[13, 10]⟩ rfl (by show n1 + 2 + m + 2 ≤ _; omega) hs4 ?_; intro v5 w5 ho5 hg5; have HB5 : Hid (Below w.heap.size w w5) := Lib.hid (HB4.out.grown hg5 hs4 (fun g hg => (HO4.out.lt g hg).1)); have HO5 : Hid (w5.ownsRow w.heap.size 5 1 v5 (acc ++ chunkL d.data.toList).length (Lib.byteCells (acc ++ chunkL d.data.toList))) := Lib.hid (by rw [HCL.out, ← HCK.out]; exact ho5); clear ho5 hg5)
          | fail)
        go_roundg (gk - 1)
        case rel => exact ⟨k + 1, a + m, r2, _, by omega, rfl, by go_num, HAM.out.1, HAM.out.2.1, HAM.out.2.2, HA1.out, HF1.out, HI1.out, HO5.out, HB5.out⟩
        case measure => omega
      · obtain rfl : k = n := by omega
        have dl : decide ((k : Int) < (k : Int)) = false := decide_eq_false (by omega)
        rw [List.drop_of_length_le (by rw [HN.out]; exact Nat.le_refl _)] at hinv hfit
        unfold fitR at hfit
        have he := of_decide_eq_true hfit
        unfold encF at hinv
        rw [hbl, if_pos (by omega)] at hinv
        obtain ⟨z1, z4⟩ := (Prod.mk.injEq _ _ _ _).mp hinv
        subst z4
        have HZ1 := Lib.hid z1
        have HO := Lib.hid hown
        have hal : acc.length ≤ 1000000 := by omega
        obtain ⟨n1, hn1⟩ : ∃ n1, acc.length = n1 := ⟨_, rfl⟩
        rw [hn1] at HO hal
        have HN1 := Lib.hid hn1
        clear z1 hinv hbw HR hown hfit he hrd hn1
        go_wp2_with (first
          | (at_builtin; refine append_str16 rfl (.tmp 36) (.const (.string ⟨#[48, 13, 10, 13, 10]⟩)) rfl w.heap.size _ acc n1 HN1.out rfl HO.out ⟨#[48, 13, 10, 13, 10]⟩ rfl (by show n1 + 5 ≤ _; omega) hsz ?_
             intro v3 w3 ho3 hg3
             have HB3 : Hid (Below w.heap.size w w3) := Lib.hid (HBW.out.grown hg3 hsz (fun g hg => (HO.out.lt g hg).1))
             have ho4 : w3.ownsRow w.heap.size 5 1 v3 (n1 + 5) (Lib.byteCells (acc ++ last5)) := ho3
             obtain ⟨A3, k3, rfl⟩ := own_form ho4
             have cv := conv_str (P := Tryd.prog) (n := n1 + 5) (c := k3) (RdA.of_own ho4).1 (by rw [List.length_append, HN1.out]; rfl) Tryd.underlying29 Tryd.underlying5 Tryd.underlying9
             have hst : (⟨(acc ++ last5).toArray⟩ : ByteArray) = t := by refine ba_ext7 ?_; rw [← HZ1.out]
             rw [hst] at cv
             clear ho3 ho4 hg3 hst)
          | fail)
        go_ret2
        exact ⟨rfl, HB3.out⟩

end Hx
end Go.Proofs.YtphakhklhicolaaDoor
