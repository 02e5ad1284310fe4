/-
  Package chunk as it landed: Decode answers what decoding answers.
-/
import Derived.Test.YtphakhklhicolaaDoorChkE
import Derived.Test.YtphakhklhicolaaDoorChkB
namespace Go.Proofs.YtphakhklhicolaaDoor
open Go.RowKit
namespace Ck
/-- What always holds of the machine. -/
def MInv (m : Mc) : Prop := m.now ≤ 9 ∧ m.dig ≤ 4 ∧ (m.dig = 0 → m.size = 0) ∧ (m.dig = 1 → m.size < 16) ∧ (m.dig = 2 → m.size < 256) ∧ (m.dig = 3 → m.size < 4096) ∧ m.size < 65536 ∧ m.body.length ≤ 8192 ∧ (m.now = 5 → 1 ≤ m.size ∧ m.body.length + m.size ≤ 8192) ∧ (m.now = 3 ∨ m.now = 4 → 1 ≤ m.dig ∧ 1 ≤ m.size) ∧ (m.now ≤ 2 ∨ 6 ≤ m.now → m.dig = 0 ∧ m.size = 0)
theorem hv_0 {c : UInt8} (h : hv c = some 0) : c = 48 := by
  unfold hv at h
  refine UInt8.toNat_inj.1 ?_
  show c.toNat = 48
  split at h
  · have := Option.some.inj h; omega
  · split at h
    · have := Option.some.inj h; omega
    · split at h
      · have := Option.some.inj h; omega
      · cases h
/-- The ways in which a byte turns the machine. -/
inductive Wy (m : Mc) (c : UInt8) : Mc → Int → Prop where
  | w2a : m.now = 2 → c = 48 → Wy m c { m with now := 6 } 0
  | w2b (d : Nat) : m.now = 2 → c ≠ 48 → hv c = some d → m.dig = 0 → Wy m c { m with now := 3, dig := m.dig + 1, size := m.size * 16 + d } 0
  | w2c : m.now = 2 → c ≠ 48 → hv c = none → m.dig = 0 → Wy m c m 160
  | w3a (d : Nat) : m.now = 3 → hv c = some d → m.dig < 4 → Wy m c { m with now := 3, dig := m.dig + 1, size := m.size * 16 + d } 0
  | w3b : m.now = 3 → c = 13 → (hv c = none ∨ m.dig = 4) → 0 < m.dig → Wy m c { m with now := 4 } 0
  | w3c : m.now = 3 → c ≠ 13 → (hv c = none ∨ m.dig = 4) → 0 < m.dig → Wy m c m 160
  | w0a : m.now = 0 → c = 13 → Wy m c { m with now := 1 } 0
  | w0b : m.now = 0 → c ≠ 13 → Wy m c m 160
  | w6a : m.now = 6 → c = 13 → Wy m c { m with now := 7 } 0
  | w6b : m.now = 6 → c ≠ 13 → Wy m c m 160
  | w8a : m.now = 8 → c = 13 → Wy m c { m with now := 9 } 0
  | w8b : m.now = 8 → c ≠ 13 → Wy m c m 160
  | w1a : m.now = 1 → c = 10 → Wy m c { m with now := 2 } 0
  | w1b : m.now = 1 → c ≠ 10 → Wy m c m 160
  | w7a : m.now = 7 → c = 10 → Wy m c { m with now := 8 } 0
  | w7b : m.now = 7 → c ≠ 10 → Wy m c m 160
  | w9a : m.now = 9 → c = 10 → Wy m c { m with now := 10 } 0
  | w9b : m.now = 9 → c ≠ 10 → Wy m c m 160
  | w4a : m.now = 4 → c = 10 → 8192 < m.body.length + m.size → Wy m c m 4
  | w4b : m.now = 4 → c = 10 → ¬ 8192 < m.body.length + m.size → Wy m c { m with now := 5 } 0
  | w4c : m.now = 4 → c ≠ 10 → Wy m c m 160
  | w5a : m.now = 5 → m.size = 1 → Wy m c ⟨0, 0, 0, m.body ++ [c]⟩ 0
  | w5b : m.now = 5 → 1 < m.size → Wy m c { m with size := m.size - 1, body := m.body ++ [c] } 0
theorem way {m : Mc} (h : MInv m) (c : UInt8) : Wy m c (tk m c).1 (tk m c).2 := by
  unfold MInv at h
  have hn : m.now = 0 ∨ m.now = 1 ∨ m.now = 2 ∨ m.now = 3 ∨ m.now = 4 ∨ m.now = 5 ∨ m.now = 6 ∨ m.now = 7 ∨ m.now = 8 ∨ m.now = 9 := by omega
  rcases hn with hn | hn | hn | hn | hn | hn | hn | hn | hn | hn
  · by_cases hc : c = 13
    · have e : tk m c = ({ m with now := 1 }, 0) := by simp [tk, ret, hn, hc]
      rw [e]; exact .w0a hn hc
    · have e : tk m c = (m, 160) := by simp [tk, ret, hn, hc]
      rw [e]; exact .w0b hn hc
  · by_cases hc : c = 10
    · have e : tk m c = ({ m with now := 2 }, 0) := by simp [tk, feed, hn, hc]
      rw [e]; exact .w1a hn hc
    · have e : tk m c = (m, 160) := by simp [tk, feed, hn, hc]
      rw [e]; exact .w1b hn hc
  · by_cases hc : c = 48
    · have e : tk m c = ({ m with now := 6 }, 0) := by simp [tk, hn, hc]
      rw [e]; exact .w2a hn hc
    · have hd : m.dig = 0 := by omega
      cases hv' : hv c with
      | none =>
        have e : tk m c = (m, 160) := by simp [tk, more, hn, hc, hv', hd]
        rw [e]; exact .w2c hn hc hv' hd
      | some d =>
        have e : tk m c = ({ m with now := 3, dig := m.dig + 1, size := m.size * 16 + d }, 0) := by simp [tk, more, hn, hc, hv', hd]
        rw [e]; exact .w2b d hn hc hv' hd
  · have hd : 0 < m.dig := by omega
    have hd0 : ¬ m.dig = 0 := by omega
    cases hv' : hv c with
    | none =>
      by_cases hc : c = 13
      · have e : tk m c = ({ m with now := 4 }, 0) := by unfold tk; rw [if_neg (by omega), if_pos hn]; unfold more; rw [hv']; dsimp only; rw [if_neg hd0]; unfold ret; rw [if_pos hc, hn]
        rw [e]; exact .w3b hn hc (.inl hv') hd
      · have e : tk m c = (m, 160) := by unfold tk; rw [if_neg (by omega), if_pos hn]; unfold more; rw [hv']; dsimp only; rw [if_neg hd0]; unfold ret; rw [if_neg hc]
        rw [e]; exact .w3c hn hc (.inl hv') hd
    | some d =>
      by_cases h4 : m.dig = 4
      · by_cases hc : c = 13
        · have e : tk m c = ({ m with now := 4 }, 0) := by unfold tk; rw [if_neg (by omega), if_pos hn]; unfold more; rw [hv']; dsimp only; rw [if_pos h4]; unfold ret; rw [if_pos hc, hn]
          rw [e]; exact .w3b hn hc (.inr h4) hd
        · have e : tk m c = (m, 160) := by unfold tk; rw [if_neg (by omega), if_pos hn]; unfold more; rw [hv']; dsimp only; rw [if_pos h4]; unfold ret; rw [if_neg hc]
          rw [e]; exact .w3c hn hc (.inr h4) hd
      · have e : tk m c = ({ m with now := 3, dig := m.dig + 1, size := m.size * 16 + d }, 0) := by unfold tk; rw [if_neg (by omega), if_pos hn]; unfold more; rw [hv']; dsimp only; rw [if_neg h4]
        rw [e]; exact .w3a d hn hv' (by omega)
  · by_cases hc : c = 10
    · by_cases hm : 8192 < m.body.length + m.size
      · have e : tk m c = (m, 4) := by simp [tk, hn, hc, hm]
        rw [e]; exact .w4a hn hc hm
      · have e : tk m c = ({ m with now := 5 }, 0) := by simp [tk, feed, hn, hc, hm]
        rw [e]; exact .w4b hn hc hm
    · have e : tk m c = (m, 160) := by simp [tk, feed, hn, hc]
      rw [e]; exact .w4c hn hc
  · by_cases hz : m.size = 1
    · have e : tk m c = (⟨0, 0, 0, m.body ++ [c]⟩, 0) := by simp [tk, hn, hz]
      rw [e]; exact .w5a hn hz
    · have e : tk m c = ({ m with size := m.size - 1, body := m.body ++ [c] }, 0) := by simp [tk, hn, hz]
      rw [e]; exact .w5b hn (by omega)
  · by_cases hc : c = 13
    · have e : tk m c = ({ m with now := 7 }, 0) := by simp [tk, ret, hn, hc]
      rw [e]; exact .w6a hn hc
    · have e : tk m c = (m, 160) := by simp [tk, ret, hn, hc]
      rw [e]; exact .w6b hn hc
  · by_cases hc : c = 10
    · have e : tk m c = ({ m with now := 8 }, 0) := by simp [tk, feed, hn, hc]
      rw [e]; exact .w7a hn hc
    · have e : tk m c = (m, 160) := by simp [tk, feed, hn, hc]
      rw [e]; exact .w7b hn hc
  · by_cases hc : c = 13
    · have e : tk m c = ({ m with now := 9 }, 0) := by simp [tk, ret, hn, hc]
      rw [e]; exact .w8a hn hc
    · have e : tk m c = (m, 160) := by simp [tk, ret, hn, hc]
      rw [e]; exact .w8b hn hc
  · by_cases hc : c = 10
    · have e : tk m c = ({ m with now := 10 }, 0) := by simp [tk, feed, hn, hc]
      rw [e]; exact .w9a hn hc
    · have e : tk m c = (m, 160) := by simp [tk, feed, hn, hc]
      rw [e]; exact .w9b hn hc
theorem way_inv {m m' : Mc} {c : UInt8} {e : Int} (h : MInv m) (hw : Wy m c m' e) : m'.body.length ≤ 8192 ∧ (e = 0 → m'.now ≠ 10 → MInv m') := by
  unfold MInv at h ⊢
  cases hw with
  | w2b d hn hc hv' hd =>
    have hd16 := hv_lt hv'
    have hd0 : d ≠ 0 := fun k => hc (hv_0 (by rw [hv', k]))
    dsimp only
    omega
  | w3a d hn hv' hd =>
    have hd16 := hv_lt hv'
    dsimp only
    omega
  | w5a hn hz => rw [List.length_append, List.length_singleton]; dsimp only; omega
  | w5b hn hz => dsimp only; rw [List.length_append, List.length_singleton]; omega
  | _ => (try dsimp only); omega
end Ck
namespace Hx
open Ck
set_option linter.unusedVariables false
set_option linter.unusedSimpArgs false

/-- The machine turned by a byte. -/
theorem take16 (b : Nat) (m m' : Mc) (c : UInt8) (er : Int) (w : World) (h : MB b m w) (hi : MInv m) (hw : Wy m c m' er) :
    Calls Tryd.prog 17 #[.pointer (some ⟨b, 0, none⟩), .int .u8 (c.toNat : Int)] w fun e w' => e = .returned (.int .i64 er) ∧ MB b m' w' ∧ Below b w w' := by
  unfold MInv at hi
  cases hw with
  | w2a hn hc => exact take_2a b m c w h hn hc
  | w2b d hn hc hv' hd => exact take_2b b m c w h hn hc d hv' (by omega) (by omega)
  | w2c hn hc hv' hd => exact take_2c b m c w h hn hc (.inl hv') (by omega) hd
  | w3a d hn hv' hd => exact take_3a b m c w h hn d hv' hd (by omega)
  | w3b hn hc h1 hd => exact take_3b b m c w h hn hc h1 (by omega) hd
  | w3c hn hc h1 hd => exact take_3c b m c w h hn hc h1 (by omega) hd
  | w0a hn hc => exact take_0a b m c w h hn hc
  | w0b hn hc => exact take_0b b m c w h hn hc
  | w6a hn hc => exact take_6a b m c w h hn hc
  | w6b hn hc => exact take_6b b m c w h hn hc
  | w8a hn hc => exact take_8a b m c w h hn hc
  | w8b hn hc => exact take_8b b m c w h hn hc
  | w1a hn hc => exact take_1a b m c w h hn hc
  | w1b hn hc => exact take_1b b m c w h hn hc
  | w7a hn hc => exact take_7a b m c w h hn hc
  | w7b hn hc => exact take_7b b m c w h hn hc
  | w9a hn hc => exact take_9a b m c w h hn hc
  | w9b hn hc => exact take_9b b m c w h hn hc
  | w4a hn hc hm => exact take_4a b m c w h hn hc (by omega) (by omega) hm
  | w4b hn hc hm => exact take_4b b m c w h hn hc (by omega) (by omega) hm
  | w4c hn hc => exact take_4c b m c w h hn hc
  | w5a hn hz => exact take_5a b m c w h hn hz (by omega)
  | w5b hn hz => exact take_5b b m c w h hn hz (by omega) (by omega)

theorem one_m : (#[Value.int .u8 2, .int .i64 0, .int .i64 0, .slice none 0 0].all fun x => x.oneCell') = true := by kernel_rfl
theorem zero_m (w : World) : (zeroValue 44).run Tryd.prog w = .ok (.agg #[.int .u8 0, .int .i64 0, .int .i64 0, .slice none 0 0]) w := by kernel_rfl
theorem size_m : (Tryd.prog.info? 44).map (·.size) = some 4 := by kernel_rfl
set_option maxHeartbeats 8000000 in
set_option maxRecDepth 100000 in
/-- The landed Decode. -/
theorem decode16 (s t : ByteArray) (u : Nat) (q : Bool) (er : Int) (w : World) (hs : s.size ≤ 1000000) (h : decL [] 0 s.data.toList = (t.data.toList, u, q, er)) :
    Calls Tryd.prog 12 #[.string s] w fun e w' => e = .returned (.tuple #[.string t, .int .i64 u, .bool q, .int .i64 er]) ∧ Below w.heap.size w w' := by
  have HR := Lib.hid ((run_dec _ s.data.toList [] 0 (Nat.le_refl _)).trans h)
  clear h
  have hz := zero_m
  go_enter Tryd.func12, Tryd.ntmps12
  go_wp2_with fail
  go_step3
  go_wp2_with (first
    | (refine wpList_store_row rfl _ _ _ rfl w.heap.size #[.int .u8 2, .int .i64 0, .int .i64 0, .slice none 0 0] rfl rfl 44 #[.int .u8 0, .int .i64 0, .int .i64 0, .slice none 0 0] (heap_alloc_new _ _) size_m rfl one_m ?_; rw [World.setRow_alloc_new])
    | fail)
  go_step3
  go_wp2_with fail
  go_loopg [5, 7, 11] s.size (fun gg er' a i wr => ∃ (k : Nat) (m : Mc), k + gg = s.size ∧ er' = .int .i64 0 ∧ i = .int .i64 k ∧ MB w.heap.size m wr ∧ MInv m ∧ run m k (s.data.toList.drop k) = (t.data.toList, u, q, er) ∧ Below w.heap.size w wr)
  case atStart => exact ⟨0, ⟨2, 0, 0, []⟩, by omega, rfl, rfl, ⟨.slice none 0 0, heap_alloc_new _ _, World.ownsRow_nil _ _ _ _⟩, by unfold MInv; simp, HR.out, (Below.refl _ _).alloc (Nat.le_refl _) _⟩
  case round =>
    obtain ⟨k, m, hk, rfl, rfl, hmb, hinv, hrun, hbw⟩ := hrel
    have HBW := Lib.hid hbw
    by_cases hlt : k < s.size
    · obtain ⟨c, hc⟩ : ∃ c, s[k]'hlt = c := ⟨_, rfl⟩
      have hca : ∀ h, s[k]'h = c := fun _ => hc
      have bk : (0 : Int) ≤ (k : Int) ∧ (k : Int) < (s.size : Int) := by omega
      have hdr : s.data.toList.drop k = c :: s.data.toList.drop (k + 1) := by
        have hkl : k < s.data.toList.length := by rw [ba_len7]; exact hlt
        rw [List.drop_eq_getElem_cons hkl]
        congr 1
      obtain ⟨m', er', htk⟩ : ∃ m' er', tk m c = (m', er') := ⟨_, _, rfl⟩
      have hw := way hinv c
      have hwi := way_inv hinv hw
      rw [htk] at hw hwi
      dsimp only at hw hwi
      have HT := Lib.hid (take16 w.heap.size m m' c er' wr hmb hinv hw)
      rw [hdr] at hrun
      unfold run at hrun
      rw [htk] at hrun
      dsimp only at hrun
      clear hmb hinv hbw hc hw hdr htk
      by_cases he : er' = 0
      · subst he
        rw [if_neg (by simp)] at hrun
        by_cases h10 : m'.now = 10
        · rw [if_pos h10] at hrun
          obtain ⟨z1, z2⟩ := (Prod.mk.injEq _ _ _ _).mp hrun
          obtain ⟨z2, z3⟩ := (Prod.mk.injEq _ _ _ _).mp z2
          obtain ⟨z3, z4⟩ := (Prod.mk.injEq _ _ _ _).mp z3
          subst z3
          subst z4
          have e10 : ((m'.now : Int) == 10) = true := by simp; omega
          have HZ2 : Hid (((k + 1 : Nat) : Int) = (u : Int)) := Lib.hid (by omega)
          have e1 : (k : Int) + 1 = (u : Int) := by omega
          have hst : (⟨m'.body.toArray⟩ : ByteArray) = t := by refine ba_ext7 ?_; rw [← z1]
          clear hrun hwi z1 h10
          go_wp2_with (first
            | (go_at_call 17; (with_reducible refine (HT.out).mono ?_); rintro e1 w1 ⟨rfl, hm1, hb1⟩
               obtain ⟨v1, hg1, ho1⟩ := hm1
               obtain ⟨A1, k1, rfl⟩ := own_form ho1
               have c0 := m4_0 hg1
               have c3 := m4_3 hg1
               have cv := conv_str (P := Tryd.prog) (n := m'.body.length) (c := k1) (RdA.of_own ho1).1 rfl Tryd.underlying29 Tryd.underlying5 Tryd.underlying9
               rw [hst] at cv
               have HB1 : Hid (Below w.heap.size w w1) := Lib.hid (HBW.out.trans hb1)
               clear hg1 ho1 hb1)
            | fail)
          rw [Exit.noGoto_ret]
          exact bodyPost_ret (results_tmp4 rfl _ _ _) rfl ⟨rfl, HB1.out⟩
        · rw [if_neg h10] at hrun
          have HR1 := Lib.hid hrun
          have e10 : ((m'.now : Int) == 10) = false := by simp; omega
          have HI1 := Lib.hid (hwi.2 rfl h10)
          clear hrun hwi
          go_wp2_with (first
            | (go_at_call 17; (with_reducible refine (HT.out).mono ?_); rintro e1 w1 ⟨rfl, hm1, hb1⟩
               have HM1 := Lib.hid hm1
               obtain ⟨v1, hg1, ho1⟩ := hm1
               have c0 := m4_0 hg1
               have HB1 : Hid (Below w.heap.size w w1) := Lib.hid (HBW.out.trans hb1)
               clear hg1 ho1 hb1)
            | fail)
          go_roundg (gk - 1)
          case rel => exact ⟨k + 1, m', by omega, rfl, by go_num, HM1.out, HI1.out, HR1.out, HB1.out⟩
          case measure => omega
      · rw [if_pos he] at hrun
        obtain ⟨z1, z2⟩ := (Prod.mk.injEq _ _ _ _).mp hrun
        obtain ⟨z2, z3⟩ := (Prod.mk.injEq _ _ _ _).mp z2
        obtain ⟨z3, z4⟩ := (Prod.mk.injEq _ _ _ _).mp z3
        subst z2
        subst z3
        subst z4
        obtain rfl : (⟨#[]⟩ : ByteArray) = t := ba_ext7 z1
        have ee : (er' != 0) = true := by simpa using he
        clear hrun hwi z1
        go_wp2_with (first
          | (go_at_call 17; (with_reducible refine (HT.out).mono ?_); rintro e1 w1 ⟨rfl, hm1, hb1⟩
             have HB1 : Hid (Below w.heap.size w w1) := Lib.hid (HBW.out.trans hb1)
             clear hm1 hb1)
          | fail)
        rw [Exit.noGoto_ret]
        exact bodyPost_ret (results_tmp4 rfl _ _ _) rfl ⟨rfl, HB1.out⟩
    · obtain rfl : s.size = k := by omega
      rw [List.drop_eq_nil_of_le (by rw [ba_len7]; exact Nat.le_refl _), run_nil] at hrun
      obtain ⟨z1, z2⟩ := (Prod.mk.injEq _ _ _ _).mp hrun
      obtain ⟨z2, z3⟩ := (Prod.mk.injEq _ _ _ _).mp z2
      obtain ⟨z3, z4⟩ := (Prod.mk.injEq _ _ _ _).mp z3
      subst z2
      subst z3
      subst z4
      obtain rfl : (⟨#[]⟩ : ByteArray) = t := ba_ext7 z1
      clear hrun hmb hinv hbw z1
      go_wp2_with fail
      (try rw [Exit.noGoto_ret])
      exact bodyPost_ret (results_tmp4 rfl _ _ _) rfl ⟨rfl, HBW.out⟩

end Hx
end Go.Proofs.YtphakhklhicolaaDoor
