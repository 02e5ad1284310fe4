/-
  Texts of one seat, put together: TreG.
-/
import Derived.Test.YteobcohjikjalaaGreatDoorSp03
import Derived.Test.YteobcohjikjalaaGreatDoorSp09
set_option linter.unusedSimpArgs false
namespace Go.Proofs.YteobcohjikjalaaGreatDoor
open Go.RowKit
namespace Hx
open Lx Tr Tx Nmb Es
set_option maxRecDepth 100000
set_option maxHeartbeats 16000000
set_option linter.unusedVariables false
theorem at_eq {a b : At} (h1 : a.space = b.space) (h2 : a.name = b.name) (h3 : a.value = b.value) : a = b := by
  cases a; cases b
  dsimp only at h1 h2 h3
  rw [h1, h2, h3]
theorem nd_eq {a b : Nd} (h0 : a.kind = b.kind) (h1 : a.space = b.space) (h2 : a.name = b.name) (h3 : a.attrs = b.attrs) (h4 : a.text = b.text) (h5 : a.many = b.many) : a = b := by
  cases a; cases b
  dsimp only at h0 h1 h2 h3 h4 h5
  rw [h0, h1, h2, h3, h4, h5]
theorem drewN_two (w : World) (a b : Nat) : (w.drewN a).drewN b = w.drewN (a + b) := by
  unfold World.drewN
  simp [Nat.add_assoc]
theorem at3 {w : World} {A : Option Addr} {l : List At} {k : Nat} (hr : RdB AtS w A l) (hk : k < l.length) :
    ∃ (b off : Nat) (x y z : ByteArray), A = some ⟨b, off, none⟩ ∧ b < w.heap.size ∧ x.data.toList = (l[k]'hk).space ∧ y.data.toList = (l[k]'hk).name ∧ z.data.toList = (l[k]'hk).value ∧
      w.cell? ⟨b, off + k * 3, none⟩ = some (.string x) ∧ w.cell? ⟨b, off + k * 3 + 1, none⟩ = some (.string y) ∧ w.cell? ⟨b, off + k * 3 + 2, none⟩ = some (.string z) := at_at hr hk
theorem rattrs (A A2 : Option Addr) (n cp n2 cp2 : Nat) (l l2 : List At) (w : World) (hr : RdB AtS w A l) (hn : l.length = n) (hr2 : RdB AtS w A2 l2) (hn2 : l2.length = n2) (hm : n ≤ 1000000) (hm2 : n2 ≤ 1000000) (q : Bool) (h : decide (l = l2) = q) :
    Calls Tryz.prog 31 #[.slice A n cp, .slice A2 n2 cp2] w fun e w' => e = .returned (.bool q) ∧ ∃ m, w' = w.drewN m := by
  have HR := Lib.hid hr
  have HN := Lib.hid hn
  have HR2 := Lib.hid hr2
  have HN2 := Lib.hid hn2
  have HM := Lib.hid hm
  have HH := Lib.hid h
  clear hr hn hr2 hn2 h
  by_cases hne : n = n2
  · subst hne
    have f0 : ((n : Int) != (n : Int)) = false := by simp
    go_enter Tryz.func31, Tryz.ntmps31
    go_wp2_with fail
    go_loopw [5] (fun i wr => ∃ k : Nat, k ≤ n ∧ i = .int .i64 k ∧ l.take k = l2.take k ∧ Hid (∃ m, wr = w.drewN m)) (fun i _ => n - (intOf i).toNat)
    case atStart => exact ⟨0, Nat.zero_le _, rfl, rfl, Lib.hid ⟨0, rfl⟩⟩
    case round =>
      obtain ⟨k, hk, rfl, hno, hdw⟩ := hrel
      have hbw : Below w.heap.size w wr := by obtain ⟨m, e⟩ := hdw.out; rw [e]; exact ⟨rfl, rfl, rfl, Nat.le_refl _, fun _ _ => rfl⟩
      have HDN : Hid (∀ n, ∃ m, wr.drewN n = w.drewN m) := Lib.hid fun n => by obtain ⟨m, e⟩ := hdw.out; exact ⟨m + n, by rw [e]; exact drewN_two w m n⟩
      have hm := HM.out
      by_cases hlt : k < n
      · have hk1 : k < l.length := by rw [HN.out]; exact hlt
        have hk2 : k < l2.length := by rw [HN2.out]; exact hlt
        obtain ⟨b0, off, x, y, z, rfl, hbB, hx, hy, hz, c0, c1, c2⟩ := at3 (HR.out.on hbw) hk1
        obtain ⟨b1, of1, x1, y1, z1, rfl, hbB1, hx1, hy1, hz1, d0, d1, d2⟩ := at3 (HR2.out.on hbw) hk2
        clear hbw
        have bk : (0 : Int) ≤ (k : Int) ∧ (k : Int) < (n : Int) := by omega
        by_cases hxy : x = x1 ∧ y = y1 ∧ z = z1
        · obtain ⟨rfl, rfl, rfl⟩ := hxy
          go_wp2_with fail
          go_quiet (fail)
          go_wp2_with fail
          have HT : Hid (l.take (k + 1) = l2.take (k + 1)) := Lib.hid (take_step hk1 hk2 hno (at_eq (hx.symm.trans hx1) (hy.symm.trans hy1) (hz.symm.trans hz1)))
          clear hx hx1 hy hy1 hz hz1 hno
          go_roundw
          case rel => exact ⟨k + 1, by omega, by go_num, HT.out, Lib.hid (HDN.out _)⟩
          case measure => simp [intOf]; omega
        · obtain rfl : false = q := by
            rw [← HH.out, eq_comm, decide_eq_false_iff_not]
            refine ne_at hk1 hk2 fun e => hxy ⟨ba_x ?_, ba_x ?_, ba_x ?_⟩
            · rw [hx, hx1, e]
            · rw [hy, hy1, e]
            · rw [hz, hz1, e]
          have hq : (x.toList == x1.toList) = false ∨ (y.toList == y1.toList) = false ∨ (z.toList == z1.toList) = false := by
            rw [seq_l, seq_l, seq_l]
            simp only [decide_eq_false_iff_not]
            by_cases h5 : x = x1
            · by_cases h6 : y = y1
              · exact .inr (.inr fun e => hxy ⟨h5, h6, ba_x e⟩)
              · exact .inr (.inl fun e => h6 (ba_x e))
            · exact .inl fun e => h5 (ba_x e)
          clear hx hx1 hy hy1 hz hz1 hno hxy
          rcases hq with q1 | q1 | q1
          · have q2 : ¬ x.toList = x1.toList := by simpa using q1
            go_wp2_with fail
            go_quiet (fail)
            go_wp2_with fail
            go_ret
            exact ⟨rfl, HDN.out _⟩
          · have q2 : ¬ y.toList = y1.toList := by simpa using q1
            go_wp2_with fail
            go_quiet (fail)
            go_wp2_with fail
            go_ret
            exact ⟨rfl, HDN.out _⟩
          · have q2 : ¬ z.toList = z1.toList := by simpa using q1
            go_wp2_with fail
            go_quiet (fail)
            go_wp2_with fail
            go_ret
            exact ⟨rfl, HDN.out _⟩
      · obtain rfl : k = n := by omega
        obtain rfl : true = q := by
          rw [← HH.out, eq_comm, decide_eq_true_eq]
          rwa [List.take_of_length_le (by rw [HN.out]; exact Nat.le_refl _), List.take_of_length_le (by rw [HN2.out]; exact Nat.le_refl _)] at hno
        clear hno
        go_wp2_with fail
        go_ret
        exact ⟨rfl, hdw.out⟩
  · have d0 : ((n : Int) != (n2 : Int)) = true := by simp; omega
    have d1 : (n != n2) = true := by simpa using hne
    have d2 : (n == n2) = false := by simpa using hne
    obtain rfl : false = q := by
      rw [← HH.out, eq_comm, decide_eq_false_iff_not]
      rintro rfl
      exact hne (HN.out.symm.trans HN2.out)
    clear hne
    go_enter Tryz.func31, Tryz.ntmps31
    go_wp2_with fail
    go_ret
    exact ⟨rfl, 0, rfl⟩
theorem rsame10 (A A2 : Option Addr) (n cp n2 cp2 : Nat) (l l2 : List Nd) (w : World) (hr : RdB NdS w A l) (hn : l.length = n) (hr2 : RdB NdS w A2 l2) (hn2 : l2.length = n2) (hm : n ≤ 1000000) (hm2 : n2 ≤ 1000000)
    (hat : ∀ t ∈ l, t.attrs.length ≤ 1000000) (hat2 : ∀ t ∈ l2, t.attrs.length ≤ 1000000) (q : Bool) (h : decide (l = l2) = q) :
    Calls Tryz.prog 10 #[.slice A n cp, .slice A2 n2 cp2] w fun e w' => e = .returned (.bool q) ∧ Below w.heap.size w w' := by
  have HR := Lib.hid hr
  have HN := Lib.hid hn
  have HR2 := Lib.hid hr2
  have HN2 := Lib.hid hn2
  have HM := Lib.hid hm
  have HH := Lib.hid h
  have HAT := Lib.hid hat
  have HAT2 := Lib.hid hat2
  clear hr hn hr2 hn2 h hat hat2
  by_cases hne : n = n2
  · subst hne
    have f0 : ((n : Int) != (n : Int)) = false := by simp
    go_enter Tryz.func10, Tryz.ntmps10
    go_wp2_with fail
    go_loopw [5] (fun i wr => ∃ k : Nat, k ≤ n ∧ i = .int .i64 k ∧ l.take k = l2.take k ∧ Below w.heap.size w wr) (fun i _ => n - (intOf i).toNat)
    case atStart => exact ⟨0, Nat.zero_le _, rfl, rfl, Below.refl _ _⟩
    case round =>
      obtain ⟨k, hk, rfl, hno, hbw⟩ := hrel
      have hm := HM.out
      have HBW := Lib.hid hbw
      by_cases hlt : k < n
      · have hk1 : k < l.length := by rw [HN.out]; exact hlt
        have hk2 : k < l2.length := by rw [HN2.out]; exact hlt
        obtain ⟨b0, off, x, y, z, a1, p1, rfl, hbB, hin, c0, c1, c2, c3, c4, c5⟩ := nd_at (HR.out.on hbw) hk1
        obtain ⟨b1, of1, x1, y1, z1, a2, p2, rfl, hbB1, hin1, d0, d1, d2, d3, d4, d5⟩ := nd_at (HR2.out.on hbw) hk2
        obtain ⟨t, ht⟩ : ∃ t, l[k]'hk1 = t := ⟨_, rfl⟩
        obtain ⟨t1, ht1⟩ : ∃ t1, l2[k]'hk2 = t1 := ⟨_, rfl⟩
        have ha1 := HAT.out _ (List.getElem_mem hk1)
        have ha2 := HAT2.out _ (List.getElem_mem hk2)
        rw [ht] at hin c0 c3 c5 ha1
        rw [ht1] at hin1 d0 d3 d5 ha2
        have hrd : RdB AtS wr a1 t.attrs := hin.attrs
        have hrd1 : RdB AtS wr a2 t1.attrs := hin1.attrs
        have blo := hin.lo
        have bhi := hin.hi
        have blo1 := hin1.lo
        have bhi1 := hin1.hi
        have HRD := Lib.hid hrd
        have HRD1 := Lib.hid hrd1
        have HA1 := Lib.hid ha1
        have HA2 := Lib.hid ha2
        have bk : (0 : Int) ≤ (k : Int) ∧ (k : Int) < (n : Int) := by omega
        have HNE : Hid (t ≠ t1 → false = q) := Lib.hid (by
          intro e
          rw [← HH.out, eq_comm, decide_eq_false_iff_not]
          exact ne_at hk1 hk2 (by rw [ht, ht1]; exact e))
        have HEQ : Hid (t = t1 → l.take (k + 1) = l2.take (k + 1)) := Lib.hid fun e => take_step hk1 hk2 hno (by rw [ht, ht1]; exact e)
        have hxx : (x.toList == x1.toList) = decide (t.space = t1.space) := by rw [seq_l, hin.space, hin1.space]
        have hyy : (y.toList == y1.toList) = decide (t.name = t1.name) := by rw [seq_l, hin.name, hin1.name]
        have hzz : (z.toList == z1.toList) = decide (t.text = t1.text) := by rw [seq_l, hin.text, hin1.text]
        have HRQ : Hid (∀ m, RdB AtS (wr.drewN m) a1 t.attrs) := Lib.hid fun m => HRD.out.on ⟨rfl, rfl, rfl, Nat.le_refl _, fun _ _ => rfl⟩
        have HRQ1 : Hid (∀ m, RdB AtS (wr.drewN m) a2 t1.attrs) := Lib.hid fun m => HRD1.out.on ⟨rfl, rfl, rfl, Nat.le_refl _, fun _ _ => rfl⟩
        clear hbw hno hrd hrd1 hin hin1 ht ht1 ha1 ha2 hk1 hk2
        by_cases e0 : t.kind = t1.kind
        · have g0 : ((t.kind : Int) != (t1.kind : Int)) = false := by simp; omega
          by_cases e1 : t.space = t1.space
          · rw [decide_eq_true e1] at hxx
            have g1 : (x.toList != x1.toList) = false := by rw [bne, hxx]; rfl
            by_cases e2 : t.name = t1.name
            · rw [decide_eq_true e2] at hyy
              have g2 : (y.toList != y1.toList) = false := by rw [bne, hyy]; rfl
              by_cases e3 : t.text = t1.text
              · rw [decide_eq_true e3] at hzz
                have g3 : (z.toList != z1.toList) = false := by rw [bne, hzz]; rfl
                by_cases e4 : t.many = t1.many
                · have g4 : (t.many != t1.many) = false := by simp; omega
                  by_cases e5 : t.attrs = t1.attrs
                  · have HT := Lib.hid (HEQ.out (nd_eq e0 e1 e2 e5 e3 e4))
                    have HQ : Hid (decide (t.attrs = t1.attrs) = true) := Lib.hid (decide_eq_true e5)
                    clear e0 e1 e2 e3 e4 e5
                    as_aux_lemma =>
                      go_wp2_with fail
                      go_quiet ((go_at_call 31; exact Calls.quiet_of (rattrs a1 a2 _ p1 _ p2 t.attrs t1.attrs _ (HRQ.out _) rfl (HRQ1.out _) rfl HA1.out HA2.out true HQ.out)))
                      go_wp2_with fail
                      go_roundw
                      case rel => exact ⟨k + 1, by omega, by go_num, HT.out, below_drewN HBW.out _⟩
                      case measure => simp [intOf]; omega
                  · obtain rfl := HNE.out (fun e => e5 (by rw [e]))
                    have HQ : Hid (decide (t.attrs = t1.attrs) = false) := Lib.hid (decide_eq_false e5)
                    clear e0 e1 e2 e3 e4 e5
                    as_aux_lemma =>
                      go_wp2_with fail
                      go_quiet ((go_at_call 31; exact Calls.quiet_of (rattrs a1 a2 _ p1 _ p2 t.attrs t1.attrs _ (HRQ.out _) rfl (HRQ1.out _) rfl HA1.out HA2.out false HQ.out)))
                      go_wp2_with fail
                      go_ret
                      exact ⟨rfl, below_drewN HBW.out _⟩
                · have g4 : (t.many != t1.many) = true := by simp; omega
                  obtain rfl := HNE.out (fun e => e4 (by rw [e]))
                  clear e0 e1 e2 e3 e4
                  as_aux_lemma =>
                    go_wp2_with fail
                    go_quiet (fail)
                    go_wp2_with fail
                    go_ret
                    exact ⟨rfl, below_drewN HBW.out _⟩
              · rw [decide_eq_false e3] at hzz
                have g3 : (z.toList != z1.toList) = true := by rw [bne, hzz]; rfl
                obtain rfl := HNE.out (fun e => e3 (by rw [e]))
                clear e0 e1 e2 e3
                as_aux_lemma =>
                  go_wp2_with fail
                  go_quiet (fail)
                  go_wp2_with fail
                  go_ret
                  exact ⟨rfl, below_drewN HBW.out _⟩
            · rw [decide_eq_false e2] at hyy
              have g2 : (y.toList != y1.toList) = true := by rw [bne, hyy]; rfl
              obtain rfl := HNE.out (fun e => e2 (by rw [e]))
              clear e0 e1 e2
              as_aux_lemma =>
                go_wp2_with fail
                go_quiet (fail)
                go_wp2_with fail
                go_ret
                exact ⟨rfl, below_drewN HBW.out _⟩
          · rw [decide_eq_false e1] at hxx
            have g1 : (x.toList != x1.toList) = true := by rw [bne, hxx]; rfl
            obtain rfl := HNE.out (fun e => e1 (by rw [e]))
            clear e0 e1
            as_aux_lemma =>
              go_wp2_with fail
              go_quiet (fail)
              go_wp2_with fail
              go_ret
              exact ⟨rfl, below_drewN HBW.out _⟩
        · have g0 : ((t.kind : Int) != (t1.kind : Int)) = true := by simp; omega
          obtain rfl := HNE.out (fun e => e0 (by rw [e]))
          clear e0
          as_aux_lemma =>
            go_wp2_with fail
            go_quiet (fail)
            go_wp2_with fail
            go_ret
            exact ⟨rfl, below_drewN HBW.out _⟩
      · obtain rfl : k = n := by omega
        obtain rfl : true = q := by
          rw [← HH.out, eq_comm, decide_eq_true_eq]
          rwa [List.take_of_length_le (by rw [HN.out]; exact Nat.le_refl _), List.take_of_length_le (by rw [HN2.out]; exact Nat.le_refl _)] at hno
        clear hno
        go_wp2_with fail
        go_ret
        exact ⟨rfl, HBW.out⟩
  · have d0 : ((n : Int) != (n2 : Int)) = true := by simp; omega
    have d1 : (n != n2) = true := by simpa using hne
    have d2 : (n == n2) = false := by simpa using hne
    obtain rfl : false = q := by
      rw [← HH.out, eq_comm, decide_eq_false_iff_not]
      rintro rfl
      exact hne (HN.out.symm.trans HN2.out)
    clear hne
    go_enter Tryz.func10, Tryz.ntmps10
    go_wp2_with fail
    go_ret
    exact ⟨rfl, Below.refl _ _⟩
end Hx
end Go.Proofs.YteobcohjikjalaaGreatDoor
