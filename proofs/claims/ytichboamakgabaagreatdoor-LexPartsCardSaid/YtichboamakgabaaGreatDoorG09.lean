/-
  Texts of one seat, put together: LexX, LexY, LexZ.
-/
import Derived.Test.YtichboamakgabaaGreatDoorG08
import Derived.Maps.AppendAt
namespace Go.Proofs.YtichboamakgabaaGreatDoor
open Go.RowKit
namespace Hx
open Lx Tx Nmb Es
set_option linter.unusedVariables false
theorem rtag9 (s : ByteArray) (a : Nat) (w : World) (hm : s.size ≤ 1000000) (ha : a < s.size) : Calls Tryz.prog 47 #[.string s, .int .i64 a] w (TagTo s a w) := by
  by_cases h : ∃ h : a + 1 < s.size, (s[a + 1]'h).toNat = 47
  · obtain ⟨h1, h2⟩ := h
    exact rtag_shut s a w hm h1 h2
  · exact rtag_open s a w hm ha (fun h1 h2 => h ⟨h1, h2⟩)
theorem tag_none (s : ByteArray) (a : Nat) (w : World) (hm : s.size ≤ 1000000) (ha : a < s.size) (h : tagL (s.data.toList.drop (a + 1)) = none) :
    Calls Tryz.prog 47 #[.string s, .int .i64 a] w fun e w' => e = .returned (.tuple #[.agg #[.int .u8 0, .string ⟨#[]⟩, .slice none 0 0, .string ⟨#[]⟩], .int .i64 (-1)]) ∧ Below w.heap.size w w' :=
  (rtag9 s a w hm ha).mono fun e w' hp => by
    obtain ⟨hb, ⟨_, h2⟩ | ⟨cs, t, n, h1, _⟩⟩ := hp
    · exact ⟨h2, hb⟩
    · rw [h] at h1; cases h1
theorem tag_some (s : ByteArray) (a : Nat) (w : World) (hm : s.size ≤ 1000000) (ha : a < s.size) (t : Tk) (n : Nat) (hn : n ≤ s.size) (h : tagL (s.data.toList.drop (a + 1)) = some (t, s.data.toList.drop n)) :
    Calls Tryz.prog 47 #[.string s, .int .i64 a] w fun e w' => Below w.heap.size w w' ∧ ∃ (x : ByteArray) (A : Option Addr) (c : Nat) (u : ByteArray), TkR w.heap.size w' #[.int .u8 (t.kind : Int), .string x, .slice A t.attrs.length c, .string u] t ∧ e = .returned (.tuple #[.agg #[.int .u8 (t.kind : Int), .string x, .slice A t.attrs.length c, .string u], .int .i64 n]) :=
  (rtag9 s a w hm ha).mono fun e w' hp => by
    obtain ⟨hb, ⟨h1, _⟩ | ⟨cs, t', n', h1, hn', hR, h2⟩⟩ := hp
    · rw [h] at h1; cases h1
    · rw [h] at h1
      obtain ⟨e1, e2⟩ := (Prod.mk.injEq _ _ _ _).mp (Option.some.inj h1)
      have e5 := drop_same (by rw [ba_l]; exact hn) (by rw [ba_l]; exact hn') e2
      subst e1 e5
      obtain ⟨x, A, c, u, k1, _⟩ := hR.1
      obtain rfl : cs = #[.int .u8 (t.kind : Int), .string x, .slice A t.attrs.length c, .string u] := by cases cs; simpa using k1
      exact ⟨hb, x, A, c, u, hR, h2⟩
theorem oneL_tagA {l : List UInt8} {a : Nat} (h : a < l.length) (h1 : l[a]'h = 60) : oneL (l.drop a) = tagL (l.drop (a + 1)) := by
  rw [List.drop_eq_getElem_cons h, h1]
  unfold oneL
  dsimp only
  rw [if_pos rfl]
theorem oneL_txt {l : List UInt8} {a j : Nat} (h : a < l.length) (h1 : l[a]'h ≠ 60) (h2 : (l.drop a).takeWhile txt = (l.drop a).take j) (h3 : j ≤ (l.drop a).length) : oneL (l.drop a) = (rd ((l.drop a).take j)).map fun x => (⟨4, [], [], x⟩, l.drop (a + j)) := by
  have e : ((l.drop a).takeWhile txt).length = j := by rw [h2, List.length_take]; omega
  have d := dw_drop txt l a
  rw [e] at d
  rw [← h2, ← d, List.drop_eq_getElem_cons h]
  unfold oneL
  dsimp only
  rw [if_neg h1]
theorem TagI_suffix {acc : List Pr} {y : List UInt8} {b : Bool} {at1 : List Pr} {r : List UInt8} (h : TagI acc y b at1 r) : ∃ p, y = p ++ r := by
  induction h with
  | shut acc g x _ => exact ⟨g ++ [62], by simp⟩
  | bare acc g x _ => exact ⟨g ++ [47, 62], by simp⟩
  | attr acc g l y p b at1 x _ _ ha _ _ ih =>
    obtain ⟨q, rfl⟩ := ih
    obtain ⟨k, _, e⟩ := attrL_suffix ha
    refine ⟨g ++ (l.take k ++ q), ?_⟩
    conv => lhs; rw [← List.take_append_drop k l, ← e]
    simp
theorem tagL_suffix {l r : List UInt8} {t : Tk} (h : tagL l = some (t, r)) : r.length ≤ l.length ∧ ∃ k, k ≤ l.length ∧ r = l.drop k := by
  obtain ⟨p, rfl⟩ : ∃ p, l = p ++ r := by
    rcases (tagL_iff _ _ _).1 h with ⟨g, rfl, _⟩ | ⟨b, y, rfl, _, hi, _⟩
    · exact ⟨47 :: (t.name ++ (g ++ [62])), by simp⟩
    · obtain ⟨q, rfl⟩ := TagI_suffix hi
      exact ⟨t.name ++ q, by simp⟩
  exact ⟨by simp, p.length, by simp, by rw [List.drop_left]⟩
theorem cell_setRow (w : World) (R b o : Nat) (cs : Array Value) (h : R < b) : (w.setRow R cs).cell? ⟨b, o, none⟩ = w.cell? ⟨b, o, none⟩ := by
  unfold World.cell?
  dsimp only
  rw [setRow_other w R b cs (by omega)]
theorem RdC_row {w : World} {A : Option Addr} {l : List Pr} (h : RdC PrC w w.heap.size A l) (R : Nat) (cs : Array Value) (hA : ∀ ad, A = some ad → R < ad.block) : RdC PrC (w.setRow R cs) (w.setRow R cs).heap.size A l := by
  intro hp
  obtain ⟨b, off, rfl, hb, hc⟩ := h hp
  refine ⟨b, off, rfl, by simpa [World.setRow] using hb, fun j hj => ?_⟩
  obtain ⟨cs', h1, h2⟩ := hc j hj
  exact ⟨cs', h1, fun i hi => (cell_setRow w R b _ cs (hA _ rfl)).trans (h2 i hi)⟩
theorem TkR_row {w : World} {B : Nat} {cs : Array Value} {t : Tk} (h : TkR B w cs t) (R : Nat) (hR : R < B) (cs' : Array Value) (B' : Nat) (hB : B' ≤ B) : TkR B' (w.setRow R cs') cs t := by
  obtain ⟨⟨x, A, c, u, h1, h2, h3, h4, h5, h6, h7, h8⟩, h9⟩ := h
  refine ⟨⟨x, A, c, u, h1, h2, h3, h4, h5, h6, h7, RdC_row h8 R cs' fun ad e => ?_⟩, fun A n c e ad e2 => Nat.le_trans hB (h9 A n c e ad e2)⟩
  exact Nat.lt_of_lt_of_le hR (h9 A _ c (by rw [← Array.getElem?_toList, h1]; rfl) ad e)
theorem TkR_text (B : Nat) (w : World) (x : ByteArray) : TkR B w #[Value.int .u8 4, .string ⟨#[]⟩, .slice none 0 0, .string x] ⟨4, [], [], x.data.toList⟩ :=
  ⟨⟨⟨#[]⟩, none, 0, x, rfl, (by decide : 4 < 256), rfl, rfl, Nat.le_refl _, Nat.zero_le _, fun _ => rfl, RdC.nil _ _ _⟩, fun A n c h ad e => by
    have h' : Value.slice none 0 0 = .slice A n c := Option.some.inj h
    injection h' with h1 _ _
    rw [← h1] at e
    cases e⟩
/-- What one answers. -/
def OneTo (s : ByteArray) (a : Nat) (w : World) (e : Ending) (w' : World) : Prop := Below w.heap.size w w' ∧
  ((oneL (s.data.toList.drop a) = none ∧ e = .returned (.tuple #[.agg #[.int .u8 0, .string ⟨#[]⟩, .slice none 0 0, .string ⟨#[]⟩], .int .i64 (-1)])) ∨
   (∃ (cs : Array Value) (t : Tk) (n : Nat), oneL (s.data.toList.drop a) = some (t, s.data.toList.drop n) ∧ n ≤ s.size ∧ TkR w.heap.size w' cs t ∧ e = .returned (.tuple #[.agg cs, .int .i64 n])))
set_option maxHeartbeats 8000000 in
set_option maxRecDepth 100000 in
theorem rone9 (s : ByteArray) (a : Nat) (w : World) (hm : s.size ≤ 1000000) (ha : a < s.size) : Calls Tryz.prog 30 #[.string s, .int .i64 a] w (OneTo s a w) := by
  have HM := Lib.hid hm
  have HA := Lib.hid ha
  obtain ⟨c0, hc0⟩ : ∃ c, s[a]'ha = c := ⟨_, rfl⟩
  have hca0 : ∀ h, s[a]'h = c0 := fun _ => hc0
  have ba : (0 : Int) ≤ (a : Int) ∧ (a : Int) < (s.size : Int) := by omega
  have hal : a < s.data.toList.length := by rw [ba_l]; exact ha
  have HAL := Lib.hid hal
  have hck0 : s.data.toList[a]'hal = c0 := (at_l s a ha).trans hc0
  by_cases h60 : c0.toNat = 60
  · have f60 : ((c0.toNat : Int) == 60) = true := by simp; omega
    have HX : Hid (oneL (s.data.toList.drop a) = tagL (s.data.toList.drop (a + 1))) := Lib.hid (oneL_tagA hal (hck0.trans (UInt8.toNat_inj.1 h60)))
    clear hck0 hc0 h60
    cases ht : tagL (s.data.toList.drop (a + 1)) with
    | none =>
      have HT := Lib.hid ht
      have HN : Hid (oneL (s.data.toList.drop a) = none) := Lib.hid (HX.out.trans ht)
      clear ht
      go_enter Tryz.func30, Tryz.ntmps30
      go_wp2_with (first
        | (go_at_call 47; (with_reducible refine (tag_none s a _ HM.out HA.out HT.out).mono ?_); rintro e w1 ⟨rfl, hb1⟩; have HG1 := Lib.hid (kept_heap (heap_alloc_new w (.cells zTk 32)) hb1); have HB1 := Lib.hid (stp (stpA (Below.refl w.heap.size w) (.cells zTk 32)) hb1); clear hb1)
        | (refine wpList_store_row rfl _ _ _ rfl w.heap.size #[.int .u8 0, .string ⟨#[]⟩, .slice none 0 0, .string ⟨#[]⟩] rfl rfl 32 zTk HG1.out sizeTk rfl (oneTk _ _ _ _) ?_)
        | fail)
      exact bodyPost_ret (v := .tuple #[.agg #[.int .u8 0, .string ⟨#[]⟩, .slice none 0 0, .string ⟨#[]⟩], .int .i64 (-1)]) (rcell2 (p := 4) (q := 5) rfl _ _ _ _ #[.int .u8 0, .string ⟨#[]⟩, .slice none 0 0, .string ⟨#[]⟩] _ _ rfl (setRow_heap _ _ _ #[.int .u8 0, .string ⟨#[]⟩, .slice none 0 0, .string ⟨#[]⟩] _ _ HG1.out) Tryz.underlying32 rfl sizeTk) rfl ⟨below_setRowV HB1.out (Nat.le_refl _) _, .inl ⟨HN.out, rfl⟩⟩
    | some r =>
      obtain ⟨t, y⟩ := r
      obtain ⟨_, k, hk, hy⟩ := tagL_suffix ht
      obtain ⟨n, hn, hy2⟩ : ∃ n, n ≤ s.size ∧ y = s.data.toList.drop n := by
        rw [List.length_drop, ba_l] at hk
        exact ⟨a + 1 + k, by omega, by rw [hy, List.drop_drop]⟩
      subst hy2
      have HT := Lib.hid ht
      have HNN := Lib.hid hn
      have HO : Hid (oneL (s.data.toList.drop a) = some (t, s.data.toList.drop n)) := Lib.hid (HX.out.trans ht)
      clear ht hy hn hk
      go_enter Tryz.func30, Tryz.ntmps30
      go_wp2_with (first
        | (go_at_call 47; (with_reducible refine (tag_some s a _ HM.out HA.out t n HNN.out HT.out).mono ?_); rintro e w1 ⟨hb1, x, A, c, u, hR, rfl⟩; have HTR := Lib.hid hR; clear hR; have HG1 := Lib.hid (kept_heap (heap_alloc_new w (.cells zTk 32)) hb1); have HB1 := Lib.hid (stp (stpA (Below.refl w.heap.size w) (.cells zTk 32)) hb1); clear hb1)
        | (refine wpList_store_row rfl _ _ _ rfl w.heap.size #[.int .u8 (t.kind : Int), .string x, .slice A t.attrs.length c, .string u] rfl rfl 32 zTk HG1.out sizeTk rfl (oneTk _ _ _ _) ?_)
        | fail)
      exact bodyPost_ret (v := .tuple #[.agg #[.int .u8 (t.kind : Int), .string x, .slice A t.attrs.length c, .string u], .int .i64 (n : Int)]) (rcell2 (p := 4) (q := 5) rfl _ _ _ _ #[.int .u8 (t.kind : Int), .string x, .slice A t.attrs.length c, .string u] _ _ rfl (setRow_heap _ _ _ #[.int .u8 (t.kind : Int), .string x, .slice A t.attrs.length c, .string u] _ _ HG1.out) Tryz.underlying32 rfl sizeTk) rfl ⟨below_setRowV HB1.out (Nat.le_refl _) _, .inr ⟨_, _, n, HO.out, HNN.out, TkR_row HTR.out _ (by rw [World.size_alloc]; omega) _ _ (by rw [World.size_alloc]; omega), rfl⟩⟩
  · have f60 : ((c0.toNat : Int) == 60) = false := by simp; omega
    have H60 : Hid (s.data.toList[a]'HAL.out ≠ 60) := Lib.hid (fun e => h60 (by rw [← hck0, e]; rfl))
    clear hck0 hc0 h60 hal
    go_enter Tryz.func30, Tryz.ntmps30
    go_wp2_with fail
    go_loopw [6] (fun i wr => ∃ k j : Nat, a + j = k ∧ k ≤ s.size ∧ i = .int .i64 k ∧ ((s.data.toList.drop a).take j).all txt = true ∧ (w.alloc (.cells zTk 32)) = wr) (fun i _ => s.size - (intOf i).toNat)
    case atStart => exact ⟨a, 0, rfl, by have := HA.out; omega, rfl, rfl, by first | rfl | trivial⟩
    case round =>
      obtain ⟨k, j, hkj, hk, rfl, hn, rfl⟩ := hrel
      have hs := HM.out
      have hdl : (s.data.toList.drop a).length = s.size - a := by rw [List.length_drop, ba_l]
      by_cases hlt : k < s.size
      · obtain ⟨c, hc⟩ : ∃ c, s[k]'hlt = c := ⟨_, rfl⟩
        have hca : ∀ h, s[k]'h = c := fun _ => hc
        have hkl : j < (s.data.toList.drop a).length := by omega
        have hck : (s.data.toList.drop a)[j]'hkl = c := by
          rw [List.getElem_drop]
          simp only [hkj]
          exact (at_l s k hlt).trans hc
        have bk : (0 : Int) ≤ (k : Int) ∧ (k : Int) < (s.size : Int) := by omega
        have hst := tw_next hkl hn
        rw [hck] at hst
        have HST := Lib.hid hst
        by_cases h6 : c.toNat = 60
        · have f6 : ((c.toNat : Int) != 60) = false := by simp; omega
          have htw := HST.out.2 (by unfold txt; rw [UInt8.toNat_inj.1 (show c.toNat = (60 : UInt8).toNat from h6)]; rfl)
          clear hck hc hn hst h6 hkl hdl
          have hxd : (s.extract a k).data.toList = (s.data.toList.drop a).take j := by rw [extract_l s a k (by omega), show k - a = j by omega]
          obtain ⟨x2, hx2⟩ : ∃ x2, s.extract a k = x2 := ⟨_, rfl⟩
          rw [hx2] at hxd
          have hxs : x2.size ≤ 1000000 := by
            rw [← ba_l, hxd, List.length_take, List.length_drop, ba_l]
            omega
          have HXS := Lib.hid hxs
          have bx : (0 : Int) ≤ (a : Int) ∧ (a : Int) ≤ (k : Int) ∧ (k : Int) ≤ (s.size : Int) := by omega
          have HO1 : Hid (oneL (s.data.toList.drop a) = (rd x2.data.toList).map fun x => (⟨4, [], [], x⟩, s.data.toList.drop k)) := Lib.hid (by
            rw [oneL_txt HAL.out H60.out htw (by rw [List.length_drop, ba_l]; omega), ← hxd, hkj])
          have HKS : Hid (k ≤ s.size) := Lib.hid (by omega)
          clear hxd htw hxs
          cases hr : rd x2.data.toList with
          | none =>
            have HR : Hid (mntR (rd x2.data.toList) = (⟨#[]⟩, false)) := Lib.hid (by rw [hr]; rfl)
            have HN : Hid (oneL (s.data.toList.drop a) = none) := Lib.hid (by rw [HO1.out, hr]; rfl)
            clear hr
            go_wp2_with (first
              | (go_at_call 48; (with_reducible refine (rread8 x2 ⟨#[]⟩ false _ HXS.out HR.out).mono ?_); rintro e w1 ⟨rfl, hb1⟩; have HG2 := Lib.hid (kept_heap (heap_alloc_new w (.cells zTk 32)) hb1); have HB2 := Lib.hid (stp (stpA (Below.refl w.heap.size w) (.cells zTk 32)) hb1); clear hb1)
              | (refine wpList_store_row rfl _ _ _ rfl w.heap.size #[.int .u8 0, .string ⟨#[]⟩, .slice none 0 0, .string ⟨#[]⟩] rfl rfl 32 zTk HG2.out sizeTk rfl (oneTk _ _ _ _) ?_)
              | fail)
            exact bodyPost_ret (v := .tuple #[.agg #[.int .u8 0, .string ⟨#[]⟩, .slice none 0 0, .string ⟨#[]⟩], .int .i64 (-1)]) (rcell2 (p := 4) (q := 5) rfl _ _ _ _ #[.int .u8 0, .string ⟨#[]⟩, .slice none 0 0, .string ⟨#[]⟩] _ _ rfl (setRow_heap _ _ _ #[.int .u8 0, .string ⟨#[]⟩, .slice none 0 0, .string ⟨#[]⟩] _ _ HG2.out) Tryz.underlying32 rfl sizeTk) rfl ⟨below_setRowV HB2.out (Nat.le_refl _) _, .inl ⟨HN.out, rfl⟩⟩
          | some x =>
            obtain ⟨xb, hxb⟩ : ∃ xb : ByteArray, xb.data.toList = x := ⟨⟨x.toArray⟩, rfl⟩
            subst hxb
            have HR : Hid (mntR (rd x2.data.toList) = (xb, true)) := Lib.hid (by rw [hr]; rfl)
            have HO : Hid (oneL (s.data.toList.drop a) = some (⟨4, [], [], xb.data.toList⟩, s.data.toList.drop k)) := Lib.hid (by rw [HO1.out, hr]; rfl)
            clear hr
            go_wp2_with (first
              | (go_at_call 48; (with_reducible refine (rread8 x2 xb true _ HXS.out HR.out).mono ?_); rintro e w1 ⟨rfl, hb1⟩; have HG2 := Lib.hid (kept_heap (heap_alloc_new w (.cells zTk 32)) hb1); have HB2 := Lib.hid (stp (stpA (Below.refl w.heap.size w) (.cells zTk 32)) hb1); clear hb1)
              | (refine wpList_store_row rfl _ _ _ rfl w.heap.size #[.int .u8 4, .string ⟨#[]⟩, .slice none 0 0, .string xb] rfl rfl 32 zTk HG2.out sizeTk rfl (oneTk _ _ _ _) ?_)
              | fail)
            exact bodyPost_ret (v := .tuple #[.agg #[.int .u8 4, .string ⟨#[]⟩, .slice none 0 0, .string xb], .int .i64 (k : Int)]) (rcell2 (p := 4) (q := 5) rfl _ _ _ _ #[.int .u8 4, .string ⟨#[]⟩, .slice none 0 0, .string xb] _ _ rfl (setRow_heap _ _ _ #[.int .u8 4, .string ⟨#[]⟩, .slice none 0 0, .string xb] _ _ HG2.out) Tryz.underlying32 rfl sizeTk) rfl ⟨below_setRowV HB2.out (Nat.le_refl _) _, .inr ⟨_, _, k, HO.out, HKS.out, TkR_text _ _ xb, rfl⟩⟩
        · have f6 : ((c.toNat : Int) != 60) = true := by simp; omega
          have HV := Lib.hid (HST.out.1 (by unfold txt; simp only [bne_iff_ne]; rintro rfl; exact h6 rfl))
          clear hck hc hn hst h6 hkl hdl
          go_wp2_with fail
          go_roundw
          case rel => exact ⟨k + 1, j + 1, by omega, by omega, by go_num, HV.out, by first | rfl | trivial⟩
          case measure => simp [intOf]; omega
      · have htw : (s.data.toList.drop a).takeWhile txt = (s.data.toList.drop a).take j := by
          have h2 : (s.data.toList.drop a).take j = s.data.toList.drop a := List.take_of_length_le (by omega)
          rw [h2] at hn ⊢
          exact tw_all hn
        clear hn hdl
        have hxd : (s.extract a k).data.toList = (s.data.toList.drop a).take j := by rw [extract_l s a k (by omega), show k - a = j by omega]
        obtain ⟨x2, hx2⟩ : ∃ x2, s.extract a k = x2 := ⟨_, rfl⟩
        rw [hx2] at hxd
        have hxs : x2.size ≤ 1000000 := by
          rw [← ba_l, hxd, List.length_take, List.length_drop, ba_l]
          omega
        have HXS := Lib.hid hxs
        have bx : (0 : Int) ≤ (a : Int) ∧ (a : Int) ≤ (k : Int) ∧ (k : Int) ≤ (s.size : Int) := by omega
        have HO1 : Hid (oneL (s.data.toList.drop a) = (rd x2.data.toList).map fun x => (⟨4, [], [], x⟩, s.data.toList.drop k)) := Lib.hid (by
          rw [oneL_txt HAL.out H60.out htw (by rw [List.length_drop, ba_l]; omega), ← hxd, hkj])
        have HKS : Hid (k ≤ s.size) := Lib.hid (by omega)
        clear hxd htw hxs
        cases hr : rd x2.data.toList with
        | none =>
          have HR : Hid (mntR (rd x2.data.toList) = (⟨#[]⟩, false)) := Lib.hid (by rw [hr]; rfl)
          have HN : Hid (oneL (s.data.toList.drop a) = none) := Lib.hid (by rw [HO1.out, hr]; rfl)
          clear hr
          go_wp2_with (first
            | (go_at_call 48; (with_reducible refine (rread8 x2 ⟨#[]⟩ false _ HXS.out HR.out).mono ?_); rintro e w1 ⟨rfl, hb1⟩; have HG2 := Lib.hid (kept_heap (heap_alloc_new w (.cells zTk 32)) hb1); have HB2 := Lib.hid (stp (stpA (Below.refl w.heap.size w) (.cells zTk 32)) hb1); clear hb1)
            | (refine wpList_store_row rfl _ _ _ rfl w.heap.size #[.int .u8 0, .string ⟨#[]⟩, .slice none 0 0, .string ⟨#[]⟩] rfl rfl 32 zTk HG2.out sizeTk rfl (oneTk _ _ _ _) ?_)
            | fail)
          exact bodyPost_ret (v := .tuple #[.agg #[.int .u8 0, .string ⟨#[]⟩, .slice none 0 0, .string ⟨#[]⟩], .int .i64 (-1)]) (rcell2 (p := 4) (q := 5) rfl _ _ _ _ #[.int .u8 0, .string ⟨#[]⟩, .slice none 0 0, .string ⟨#[]⟩] _ _ rfl (setRow_heap _ _ _ #[.int .u8 0, .string ⟨#[]⟩, .slice none 0 0, .string ⟨#[]⟩] _ _ HG2.out) Tryz.underlying32 rfl sizeTk) rfl ⟨below_setRowV HB2.out (Nat.le_refl _) _, .inl ⟨HN.out, rfl⟩⟩
        | some x =>
          obtain ⟨xb, hxb⟩ : ∃ xb : ByteArray, xb.data.toList = x := ⟨⟨x.toArray⟩, rfl⟩
          subst hxb
          have HR : Hid (mntR (rd x2.data.toList) = (xb, true)) := Lib.hid (by rw [hr]; rfl)
          have HO : Hid (oneL (s.data.toList.drop a) = some (⟨4, [], [], xb.data.toList⟩, s.data.toList.drop k)) := Lib.hid (by rw [HO1.out, hr]; rfl)
          clear hr
          go_wp2_with (first
            | (go_at_call 48; (with_reducible refine (rread8 x2 xb true _ HXS.out HR.out).mono ?_); rintro e w1 ⟨rfl, hb1⟩; have HG2 := Lib.hid (kept_heap (heap_alloc_new w (.cells zTk 32)) hb1); have HB2 := Lib.hid (stp (stpA (Below.refl w.heap.size w) (.cells zTk 32)) hb1); clear hb1)
            | (refine wpList_store_row rfl _ _ _ rfl w.heap.size #[.int .u8 4, .string ⟨#[]⟩, .slice none 0 0, .string xb] rfl rfl 32 zTk HG2.out sizeTk rfl (oneTk _ _ _ _) ?_)
            | fail)
          exact bodyPost_ret (v := .tuple #[.agg #[.int .u8 4, .string ⟨#[]⟩, .slice none 0 0, .string xb], .int .i64 (k : Int)]) (rcell2 (p := 4) (q := 5) rfl _ _ _ _ #[.int .u8 4, .string ⟨#[]⟩, .slice none 0 0, .string xb] _ _ rfl (setRow_heap _ _ _ #[.int .u8 4, .string ⟨#[]⟩, .slice none 0 0, .string xb] _ _ HG2.out) Tryz.underlying32 rfl sizeTk) rfl ⟨below_setRowV HB2.out (Nat.le_refl _) _, .inr ⟨_, _, k, HO.out, HKS.out, TkR_text _ _ xb, rfl⟩⟩
end Hx
end Go.Proofs.YtichboamakgabaaGreatDoor
namespace Go.Proofs.YtichboamakgabaaGreatDoor
open Go.RowKit
namespace Hx
open Lx Tx Nmb Es
set_option linter.unusedVariables false
theorem lexE_same : ∀ (f g n : Nat) (l : List UInt8), l.length ≤ f → l.length ≤ g → lexE f n l = lexE g n l := by
  intro f
  induction f with
  | zero =>
    intro g n l h1 h2
    obtain rfl := List.eq_nil_of_length_eq_zero (Nat.le_zero.1 h1)
    cases g <;> rfl
  | succ f ih =>
    intro g n l h1 h2
    cases l with
    | nil => cases g <;> rfl
    | cons c l =>
      cases g with
      | zero => simp at h2
      | succ g =>
        unfold lexE
        cases ho : oneL (c :: l) with
        | none => rfl
        | some r =>
          obtain ⟨t, y⟩ := r
          have hl := oneL_len ho
          rw [List.length_cons] at h1 h2 hl
          dsimp only
          rw [ih g (n + 1) y (by omega) (by omega)]
/-- The tokens from here on. -/
def lexG (n : Nat) (l : List UInt8) : Except (Int × Nat) (List Tk) := lexE l.length n l
theorem lexG_none {l : List UInt8} {p n : Nat} (hp : p < l.length) (h : oneL (l.drop p) = none) : lexG n (l.drop p) = .error (if n = 512 then 4 else 80, l.length - p) := by
  unfold lexG
  have hl : (l.drop p).length = l.length - p := List.length_drop
  cases hd : l.drop p with
  | nil => rw [hd] at hl; simp at hl; omega
  | cons c x =>
    rw [hd] at h hl
    rw [← hl, List.length_cons]
    unfold lexE
    rw [h]
theorem lexG_many {l r : List UInt8} {t : Tk} {p n : Nat} (hp : p < l.length) (h : oneL (l.drop p) = some (t, r)) (hb : n = 512 ∨ 16 < t.attrs.length) : lexG n (l.drop p) = .error (4, l.length - p) := by
  unfold lexG
  have hl : (l.drop p).length = l.length - p := List.length_drop
  cases hd : l.drop p with
  | nil => rw [hd] at hl; simp at hl; omega
  | cons c x =>
    rw [hd] at h hl
    rw [← hl, List.length_cons]
    unfold lexE
    rw [h]
    dsimp only
    rw [if_pos hb]
theorem lexG_next {l r : List UInt8} {t : Tk} {p n : Nat} (hp : p < l.length) (h : oneL (l.drop p) = some (t, r)) (hb : ¬ (n = 512 ∨ 16 < t.attrs.length)) : lexG n (l.drop p) = (lexG (n + 1) r).map (t :: ·) := by
  unfold lexG
  have hl : (l.drop p).length = l.length - p := List.length_drop
  cases hd : l.drop p with
  | nil => rw [hd] at hl; simp at hl; omega
  | cons c x =>
    rw [hd] at h hl
    have h2 := oneL_len h
    rw [List.length_cons] at h2 ⊢
    conv => lhs; unfold lexE
    rw [h]
    dsimp only
    rw [if_neg hb, lexE_same x.length r.length (n + 1) r (by omega) (Nat.le_refl _)]
theorem lexR_in {l : List UInt8} (h1 : l.length ≤ 16384) (h2 : isP l = true) : lexR l = (match lexG 0 l with | .ok ts => (ts, 0, 0) | .error (e, k) => ([], (l.length : Int) - k, e)) := by
  unfold lexR lexG
  rw [if_neg (by omega), if_pos h2]
  cases lexE l.length 0 l <;> rfl
theorem map_error {α β : Type} {ε : Type} {e : ε} {x : Except ε α} (f : α → β) (h : x = .error e) : x.map f = .error e := by rw [h]; rfl
theorem lexR_err {l : List UInt8} {p n : Nat} {e : Int} {f : List Tk → List Tk} (h1 : l.length ≤ 16384) (h2 : isP l = true) (hp : p ≤ l.length) (hG : lexG 0 l = (lexG n (l.drop p)).map f) (h : lexG n (l.drop p) = .error (e, l.length - p)) : lexR l = ([], (p : Int), e) := by
  rw [lexR_in h1 h2, hG, map_error f h]
  dsimp only
  rw [show ((l.length : Nat) : Int) - ((l.length - p : Nat) : Int) = (p : Int) by omega]
theorem oneL_suffix {l r : List UInt8} {t : Tk} (h : oneL l = some (t, r)) : ∃ k, k ≤ l.length ∧ r = l.drop k := by
  rcases oneL_kind h with ⟨h1, s, rfl, ht⟩ | ⟨h1, h2, a, x, rfl, _⟩
  · obtain ⟨_, k, hk, e⟩ := tagL_suffix ht
    exact ⟨k + 1, by simp; omega, by rw [e]; rfl⟩
  · exact ⟨a.length, by simp, by rw [List.drop_left]⟩
theorem one_none (s : ByteArray) (a : Nat) (w : World) (hm : s.size ≤ 1000000) (ha : a < s.size) (h : oneL (s.data.toList.drop a) = none) :
    Calls Tryz.prog 30 #[.string s, .int .i64 a] w fun e w' => e = .returned (.tuple #[.agg #[.int .u8 0, .string ⟨#[]⟩, .slice none 0 0, .string ⟨#[]⟩], .int .i64 (-1)]) ∧ Below w.heap.size w w' :=
  (rone9 s a w hm ha).mono fun e w' hp => by
    obtain ⟨hb, ⟨_, h2⟩ | ⟨cs, t, n, h1, _⟩⟩ := hp
    · exact ⟨h2, hb⟩
    · rw [h] at h1; cases h1
theorem one_some (s : ByteArray) (a : Nat) (w : World) (hm : s.size ≤ 1000000) (ha : a < s.size) (t : Tk) (n : Nat) (hn : n ≤ s.size) (h : oneL (s.data.toList.drop a) = some (t, s.data.toList.drop n)) :
    Calls Tryz.prog 30 #[.string s, .int .i64 a] w fun e w' => Below w.heap.size w w' ∧ ∃ (x : ByteArray) (A : Option Addr) (c : Nat) (u : ByteArray), TkR w.heap.size w' #[.int .u8 (t.kind : Int), .string x, .slice A t.attrs.length c, .string u] t ∧ e = .returned (.tuple #[.agg #[.int .u8 (t.kind : Int), .string x, .slice A t.attrs.length c, .string u], .int .i64 n]) :=
  (rone9 s a w hm ha).mono fun e w' hp => by
    obtain ⟨hb, ⟨h1, _⟩ | ⟨cs, t', n', h1, hn', hR, h2⟩⟩ := hp
    · rw [h] at h1; cases h1
    · rw [h] at h1
      obtain ⟨e1, e2⟩ := (Prod.mk.injEq _ _ _ _).mp (Option.some.inj h1)
      have e5 := drop_same (by rw [ba_l]; exact hn) (by rw [ba_l]; exact hn') e2
      subst e1 e5
      obtain ⟨x, A, c, u, k1, _⟩ := hR.1
      obtain rfl : cs = #[.int .u8 (t.kind : Int), .string x, .slice A t.attrs.length c, .string u] := by cases cs; simpa using k1
      exact ⟨hb, x, A, c, u, hR, h2⟩
/-- A token as the program holds it. -/
structure TB where
  x : ByteArray
  A : Option Addr
  c : Nat
  u : ByteArray
  t : Tk
def tbCells (b : TB) : List Value := [.int .u8 (b.t.kind : Int), .string b.x, .slice b.A b.t.attrs.length b.c, .string b.u]
/-- The tokens so far: an own row; where their attributes lie. -/
def LexSt (w : World) (L : List TB) (v : Value) (wr : World) : Prop :=
  wr.ownsRow w.heap.size 32 4 v L.length (L.flatMap tbCells) ∧ (∀ b ∈ L, TkC.R wr wr.heap.size (tbCells b) b.t ∧ (0 < b.t.attrs.length → ∀ ad, b.A = some ad → some ad.block ≠ v.ownBlock)) ∧ Below w.heap.size w wr
theorem LexSt.below {w wr w' : World} {L : List TB} {v : Value} (h : LexSt w L v wr) (hb : Below wr.heap.size wr w') : LexSt w L v w' :=
  ⟨own_belowK h.1 hb (Nat.le_refl _), fun b hm => ⟨TkC.keep (h.2.1 b hm).1 hb.size (fun bl o hlt => hb.cell (p := ⟨bl, o, none⟩) hlt), (h.2.1 b hm).2⟩, stp h.2.2 hb⟩
/-- What Lex answers. -/
def LexTo (s : ByteArray) (w : World) (e : Ending) (w' : World) : Prop := Below w.heap.size w w' ∧
  ∃ (ts : List Tk) (n er : Int) (A : Option Addr) (c : Nat), lexR s.data.toList = (ts, n, er) ∧ e = .returned (.tuple #[.slice A ts.length c, .int .i64 n, .int .i64 er]) ∧ RdC TkC w' w'.heap.size A ts ∧ ts.length ≤ c ∧ c ≤ maxLen ∧ (A = none → c = 0)
theorem LexTo.bad {s : ByteArray} {w w' : World} {n er : Int} (hb : Below w.heap.size w w') (h : lexR s.data.toList = ([], n, er)) : LexTo s w (.returned (.tuple #[.slice none 0 0, .int .i64 n, .int .i64 er])) w' :=
  ⟨hb, [], n, er, none, 0, h, rfl, RdC.nil _ _ _, Nat.le_refl _, Nat.zero_le _, fun _ => rfl⟩
theorem LexTo.good {s : ByteArray} {w wr : World} {L : List TB} {A : Option Addr} {c : Nat} (h : LexSt w L (.slice A L.length c) wr) (hl : lexR s.data.toList = (L.map TB.t, 0, 0)) : LexTo s w (.returned (.tuple #[.slice A L.length c, .int .i64 0, .int .i64 0])) wr := by
  obtain ⟨h1, _, h3, h4, h5⟩ := RdC.of_own (C := TkC) tbCells TB.t (fun _ => rfl) (by decide) L (fun b hm => (h.2.1 b hm).1) h.1
  exact ⟨h.2.2, L.map TB.t, 0, 0, A, c, hl, by rw [List.length_map], h1, by rw [List.length_map]; exact h3, h4, h5⟩
theorem infoTk : (Tryz.prog.info? 32).map (fun i => (i.zero, i.size, i.bytes)) = some (some (.agg #[.int .u8 0, .string ⟨#[]⟩, .slice none 0 0, .string ⟨#[]⟩]), 4, 64) := by kernel_rfl
theorem tb_one (k : Int) (x : ByteArray) (A : Option Addr) (n c : Nat) (u : ByteArray) : ∀ v ∈ [Value.int .u8 k, .string x, .slice A n c, .string u], v.oneCell' = true := by simp [Value.oneCell']
theorem LexSt.next {w wr w1 w5 : World} {L : List TB} {A A4 A1 : Option Addr} {c c4 c1 : Nat} {x u : ByteArray} {t : Tk} {o1 o2 : Obj} (h : LexSt w L (.slice A L.length c) wr) (hb : Below wr.heap.size wr w1)
    (hR : TkR wr.heap.size w1 #[.int .u8 (t.kind : Int), .string x, .slice A1 t.attrs.length c1, .string u] t)
    (hown : w5.ownsRow w.heap.size 32 4 (.slice A4 (L.length + 1) c4) (L.length + 1) (L.flatMap tbCells ++ [.int .u8 (t.kind : Int), .string x, .slice A1 t.attrs.length c1, .string u]))
    (hgr : ((w1.alloc o1).alloc o2).grownBy w5 (Value.slice A L.length c).ownBlock)
    (hlie : (Value.slice A4 (L.length + 1) c4).ownBlock = (Value.slice A L.length c).ownBlock ∨ (Value.slice A4 (L.length + 1) c4).ownBlock = some ((w1.alloc o1).alloc o2).heap.size) :
    LexSt w (L ++ [⟨x, A1, c1, u, t⟩]) (.slice A4 (L.length + 1) c4) w5 := by
  have hb2 : Below w1.heap.size w1 ((w1.alloc o1).alloc o2) := stpA (stpA (Below.refl _ _) _) _
  have h1 := (h.below hb).below hb2
  have hlen : (L ++ [(⟨x, A1, c1, u, t⟩ : TB)]).length = L.length + 1 := by simp
  have hfar : ∀ (A' : Option Addr) (l : List Pr), RdC PrC ((w1.alloc o1).alloc o2) ((w1.alloc o1).alloc o2).heap.size A' l → (0 < l.length → ∀ ad, A' = some ad → some ad.block ≠ (Value.slice A L.length c).ownBlock) → RdC PrC w5 w5.heap.size A' l := by
    intro A' l hr hne hp
    obtain ⟨b, off, rfl, hlt, hc⟩ := hr hp
    refine ⟨b, off, rfl, Nat.lt_of_lt_of_le hlt hgr.size, fun j hj => ?_⟩
    obtain ⟨cs', k1, k2⟩ := hc j hj
    exact ⟨cs', k1, fun i hi => hgr.cell (k2 i hi) (hne hp ⟨b, off, none⟩ rfl)⟩
  have hw1 := hb.size
  have hown0 : ∀ k, (Value.slice A L.length c).ownBlock = some k → w.heap.size ≤ k ∧ k < wr.heap.size := fun k hk => h.1.lt k hk
  have hnew : ∀ (B : TB), (0 < B.t.attrs.length → ∀ ad, B.A = some ad → some ad.block ≠ (Value.slice A L.length c).ownBlock) → TkC.R ((w1.alloc o1).alloc o2) ((w1.alloc o1).alloc o2).heap.size (tbCells B) B.t → TkC.R w5 w5.heap.size (tbCells B) B.t ∧ ((0 < B.t.attrs.length → ∀ ad, B.A = some ad → some ad.block ≠ (Value.slice A4 (L.length + 1) c4).ownBlock)) := by
    intro B hne hk
    obtain ⟨x', A', c', u', e1, e2, e3, e4, e5, e6, e7, e8⟩ := hk
    have e1' := e1
    unfold tbCells at e1'
    injection e1' with _ e1'
    injection e1' with _ e1'
    injection e1' with e9 _
    injection e9 with e9 _ _
    subst e9
    refine ⟨⟨x', _, c', u', e1, e2, e3, e4, e5, e6, e7, hfar _ _ e8 hne⟩, fun hp ad e => ?_⟩
    rcases hlie with h6 | h6
    · rw [h6]; exact hne hp ad e
    · rw [h6]
      obtain ⟨b, off, e10, hlt, _⟩ := e8 hp
      rw [e] at e10
      injection e10 with e10
      subst e10
      intro e11
      injection e11 with e11
      dsimp only at e11 hlt
      omega
  refine ⟨by rw [hlen, List.flatMap_append]; simpa [tbCells] using hown, fun b hm => ?_, h1.2.2.grown hgr ?_ ?_⟩
  · rcases List.mem_append.1 hm with hm | hm
    · exact hnew b (h1.2.1 b hm).2 (h1.2.1 b hm).1
    · obtain rfl := List.mem_singleton.1 hm
      refine hnew _ (fun _ ad e => ?_) (TkC.keep hR.1 hb2.size fun bl o hlt => hb2.cell (p := ⟨bl, o, none⟩) hlt)
      intro e2
      have := hR.2 A1 _ c1 rfl ad e
      have := (hown0 _ e2.symm).2
      omega
  · rw [World.size_alloc, World.size_alloc]
    have := h.2.2.size
    omega
  · intro k hk
    exact (hown0 k hk).1
set_option maxHeartbeats 8000000 in
set_option maxRecDepth 100000 in
theorem rlex9 (s : ByteArray) (w : World) (hm : s.size ≤ 1000000) : Calls Tryz.prog 15 #[.string s] w (LexTo s w) := by
  obtain ⟨i0, hi, hz0, hz1, hz2⟩ := info_parts infoTk
  have HI := Lib.hid hi
  have HZ0 := Lib.hid hz0
  have HZ1 := Lib.hid hz1
  have HZ2 := Lib.hid hz2
  clear hi hz0 hz1 hz2
  have HM := Lib.hid hm
  have hsl := ba_l s
  by_cases h1 : 16384 < s.size
  · have HC : Hid (chkE s = 4) := Lib.hid (by unfold chkE; rw [if_pos h1])
    have HF : Hid (lexR s.data.toList = ([], 0, 4)) := Lib.hid (by unfold lexR; rw [if_pos (by rw [hsl]; exact h1)])
    clear h1 hsl
    go_enter Tryz.func15, Tryz.ntmps15
    go_wp2_with (first
      | (go_at_call 29; (with_reducible refine (rcheck_any s w HM.out 4 HC.out).mono ?_); rintro e w1 ⟨rfl, hb1⟩)
      | fail)
    (try simp only [Exit.inBlock, Exit.then])
    refine bodyPost_ret (results_tmp3 rfl _ _ _) rfl ?_
    exact LexTo.bad hb1 HF.out
  · by_cases h2 : isP s.data.toList = true
    · have HC : Hid (chkE s = 0) := Lib.hid (by unfold chkE; rw [if_neg h1, if_pos (show (pts s.data.toList).isSome = true from h2)])
      have H1 : Hid (s.data.toList.length ≤ 16384) := Lib.hid (by omega)
      have H2 := Lib.hid h2
      clear h1 h2 hsl
      go_enter Tryz.func15, Tryz.ntmps15
      go_wp2_with (first
        | (go_at_call 29; (with_reducible refine (rcheck_any s w HM.out 0 HC.out).mono ?_); rintro e w1 ⟨rfl, hb1⟩; have HB1 := Lib.hid hb1; clear hb1)
        | fail)
      go_loopw [6, 7] (fun v i wr => ∃ (p : Nat) (L : List TB), i = .int .i64 p ∧ p ≤ s.size ∧ L.length ≤ 512 ∧ LexSt w L v wr ∧ lexG 0 s.data.toList = (lexG L.length (s.data.toList.drop p)).map (L.map TB.t ++ ·)) (fun _ i _ => s.size - (intOf i).toNat)
      case atStart =>
        refine ⟨0, [], rfl, Nat.zero_le _, Nat.zero_le _, ⟨World.ownsRow_nil _ _ _ _, (fun b hm => by cases hm), HB1.out⟩, ?_⟩
        rw [List.drop_zero]
        cases lexG 0 s.data.toList <;> rfl
      case round =>
        obtain ⟨p, L, rfl, hp, hLn, hS, hG⟩ := hrel
        obtain ⟨A, c, rfl⟩ := own_form2 hS.1
        have hm9 := HM.out
        have HST := Lib.hid hS
        have S3 := Lib.hid hS.2.2
        have HG := Lib.hid hG
        have HL5 := Lib.hid hLn
        clear hS hG
        by_cases hlt : p < s.size
        · have HP := Lib.hid hlt
          have hpl : p < s.data.toList.length := by rw [ba_l]; exact hlt
          by_cases h5 : L.length = 512
          · have f5 : ((L.length : Int) == 512) = true := by simp; omega
            cases ho : oneL (s.data.toList.drop p) with
            | none =>
              have HO := Lib.hid ho
              have HF : Hid (lexR s.data.toList = ([], (p : Int), 4)) := Lib.hid (lexR_err H1.out H2.out (Nat.le_of_lt hpl) HG.out (by rw [lexG_none hpl ho, if_pos h5]))
              clear ho h5 hpl
              go_wp2_with (first
                | (go_at_call 30; (with_reducible refine (one_none s p _ HM.out HP.out HO.out).mono ?_); rintro e w1 ⟨rfl, hb1⟩; have SB := Lib.hid (stpA (stp S3.out hb1) (.cells #[.int .u8 0, .string ⟨#[]⟩, .slice none 0 0, .string ⟨#[]⟩] 32)); clear hb1)
                | (refine wpList_store_row rfl _ _ _ rfl w1.heap.size #[.int .u8 0, .string ⟨#[]⟩, .slice none 0 0, .string ⟨#[]⟩] rfl rfl 32 zTk (heap_alloc_new _ _) sizeTk rfl (oneTk _ _ _ _) ?_; rw [World.setRow_alloc_new])
                | fail)
              (try simp only [Exit.inBlock, Exit.then])
              refine bodyPost_ret (results_tmp3 rfl _ _ _) rfl ?_
              exact LexTo.bad SB.out HF.out
            | some r =>
              obtain ⟨t, y⟩ := r
              obtain ⟨n, hn, hy⟩ : ∃ n, n ≤ s.size ∧ y = s.data.toList.drop n := by
                obtain ⟨k, hk, e⟩ := oneL_suffix ho
                rw [List.length_drop, ba_l] at hk
                exact ⟨p + k, by omega, by rw [e, List.drop_drop]⟩
              subst hy
              have HO := Lib.hid ho
              have HNN := Lib.hid hn
              have HF : Hid (lexR s.data.toList = ([], (p : Int), 4)) := Lib.hid (lexR_err H1.out H2.out (Nat.le_of_lt hpl) HG.out (lexG_many hpl ho (.inl h5)))
              clear ho h5 hpl
              go_wp2_with (first
                | (go_at_call 30; (with_reducible refine (one_some s p _ HM.out HP.out t n HNN.out HO.out).mono ?_); rintro e w1 ⟨hb1, x, A1, c1, u, hR, rfl⟩; have hB := Lib.hid hb1; have hTR := Lib.hid hR; have SB := Lib.hid (stpA (stp S3.out hb1) (.cells #[.int .u8 (t.kind : Int), .string x, .slice A1 t.attrs.length c1, .string u] 32)); clear hb1 hR)
                | (refine wpList_store_row rfl _ _ _ rfl w1.heap.size #[.int .u8 (t.kind : Int), .string x, .slice A1 t.attrs.length c1, .string u] rfl rfl 32 zTk (heap_alloc_new _ _) sizeTk rfl (oneTk _ _ _ _) ?_; rw [World.setRow_alloc_new])
                | fail)
              (try simp only [Exit.inBlock, Exit.then])
              refine bodyPost_ret (results_tmp3 rfl _ _ _) rfl ?_
              exact LexTo.bad SB.out HF.out
          · have f5 : ((L.length : Int) == 512) = false := by simp; omega
            cases ho : oneL (s.data.toList.drop p) with
            | none =>
              have HO := Lib.hid ho
              have HF : Hid (lexR s.data.toList = ([], (p : Int), 80)) := Lib.hid (lexR_err H1.out H2.out (Nat.le_of_lt hpl) HG.out (by rw [lexG_none hpl ho, if_neg h5]))
              clear ho h5 hpl
              go_wp2_with (first
                | (go_at_call 30; (with_reducible refine (one_none s p _ HM.out HP.out HO.out).mono ?_); rintro e w1 ⟨rfl, hb1⟩; have SB := Lib.hid (stpA (stp S3.out hb1) (.cells #[.int .u8 0, .string ⟨#[]⟩, .slice none 0 0, .string ⟨#[]⟩] 32)); clear hb1)
                | (refine wpList_store_row rfl _ _ _ rfl w1.heap.size #[.int .u8 0, .string ⟨#[]⟩, .slice none 0 0, .string ⟨#[]⟩] rfl rfl 32 zTk (heap_alloc_new _ _) sizeTk rfl (oneTk _ _ _ _) ?_; rw [World.setRow_alloc_new])
                | fail)
              (try simp only [Exit.inBlock, Exit.then])
              refine bodyPost_ret (results_tmp3 rfl _ _ _) rfl ?_
              exact LexTo.bad SB.out HF.out
            | some r =>
              obtain ⟨t, y⟩ := r
              obtain ⟨n, hn, hy⟩ : ∃ n, n ≤ s.size ∧ y = s.data.toList.drop n := by
                obtain ⟨k, hk, e⟩ := oneL_suffix ho
                rw [List.length_drop, ba_l] at hk
                exact ⟨p + k, by omega, by rw [e, List.drop_drop]⟩
              subst hy
              have hpn : p < n := by
                have := oneL_len ho
                rw [List.length_drop, List.length_drop, ba_l] at this
                omega
              have HPN := Lib.hid hpn
              have HO := Lib.hid ho
              have HNN := Lib.hid hn
              have b0 : decide ((0 : Int) ≤ (n : Int)) = true := decide_eq_true (by omega)
              have b1 : decide ((n : Int) < 0) = false := decide_eq_false (by omega)
              by_cases h16 : 16 < t.attrs.length
              · have f16 : decide ((16 : Int) < (t.attrs.length : Int)) = true := decide_eq_true (by omega)
                have HF : Hid (lexR s.data.toList = ([], (p : Int), 4)) := Lib.hid (lexR_err H1.out H2.out (Nat.le_of_lt hpl) HG.out (lexG_many hpl ho (.inr h16)))
                clear ho h5 hpl h16
                go_wp2_with (first
                  | (go_at_call 30; (with_reducible refine (one_some s p _ HM.out HP.out t n HNN.out HO.out).mono ?_); rintro e w1 ⟨hb1, x, A1, c1, u, hR, rfl⟩; have hB := Lib.hid hb1; have hTR := Lib.hid hR; have SB := Lib.hid (stpA (stp S3.out hb1) (.cells #[.int .u8 (t.kind : Int), .string x, .slice A1 t.attrs.length c1, .string u] 32)); clear hb1 hR)
                  | (refine wpList_store_row rfl _ _ _ rfl w1.heap.size #[.int .u8 (t.kind : Int), .string x, .slice A1 t.attrs.length c1, .string u] rfl rfl 32 zTk (heap_alloc_new _ _) sizeTk rfl (oneTk _ _ _ _) ?_; rw [World.setRow_alloc_new])
                  | fail)
                (try simp only [Exit.inBlock, Exit.then])
                refine bodyPost_ret (results_tmp3 rfl _ _ _) rfl ?_
                exact LexTo.bad SB.out HF.out
              · have f16 : decide ((16 : Int) < (t.attrs.length : Int)) = false := decide_eq_false (by omega)
                have HNX := Lib.hid (lexG_next (n := L.length) hpl ho (by rintro (h | h); exact h5 h; exact h16 h))
                have HL6 : Hid (L.length ≠ 512) := Lib.hid h5
                clear ho h5 hpl h16
                go_wp2_with (first
                  | (go_at_call 30; (with_reducible refine (one_some s p _ HM.out HP.out t n HNN.out HO.out).mono ?_); rintro e w1 ⟨hb1, x, A1, c1, u, hR, rfl⟩; have hB := Lib.hid hb1; have hTR := Lib.hid hR; have SB := Lib.hid (stpA (stp S3.out hb1) (.cells #[.int .u8 (t.kind : Int), .string x, .slice A1 t.attrs.length c1, .string u] 32)); clear hb1 hR)
                  | (refine wpList_store_row rfl _ _ _ rfl w1.heap.size #[.int .u8 (t.kind : Int), .string x, .slice A1 t.attrs.length c1, .string u] rfl rfl 32 zTk (heap_alloc_new _ _) sizeTk rfl (oneTk _ _ _ _) ?_; rw [World.setRow_alloc_new])
                  | (refine wpList_load_row rfl _ _ rfl w1.heap.size rfl 32 #[.int .u8 (t.kind : Int), .string x, .slice A1 t.attrs.length c1, .string u] (0, 0) _ (heap_alloc_new _ _) Tryz.underlying32 rfl sizeTk ?_)
                  | (at_builtin; refine wpList_append_own_at _ rfl (.tmp 42) (.tmp 44) 23 rfl w.heap.size 32 i0 (.agg #[.int .u8 0, .string ⟨#[]⟩, .slice none 0 0, .string ⟨#[]⟩]) 4 64 Tryz.underlying23 HI.out HZ0.out HZ1.out HZ2.out rfl (by decide) _ L.length _ rfl ((HST.out.below hB.out).below (stpA (stpA (Below.refl w1.heap.size w1) _) _)).1 ⟨w1.heap.size + 1, 0, none⟩ 1 1 [.int .u8 (t.kind : Int), .string x, .slice A1 t.attrs.length c1, .string u] rfl rfl (new_at (w1.alloc (.cells #[.int .u8 (t.kind : Int), .string x, .slice A1 t.attrs.length c1, .string u] 32)) [.int .u8 (t.kind : Int), .string x, .slice A1 t.attrs.length c1, .string u] 32 _ (World.size_alloc _ _)) (tb_one _ _ _ _ _ _) (by have := HL5.out; unfold maxLen; omega) (by have := HL5.out; omega) (by rw [World.size_alloc, World.size_alloc]; have := S3.out.size; have := hB.out.size; omega) ?_; intro v4 w5 hown4 hgr4 _ hlie; obtain ⟨A4, c4, rfl⟩ := own_form2 hown4; have HOW := Lib.hid hown4; have HGR := Lib.hid hgr4; have HLIE := Lib.hid hlie; clear hown4 hgr4 hlie)
                  | fail)
                go_roundw
                case rel =>
                  refine ⟨n, L ++ [⟨x, A1, c1, u, t⟩], rfl, HNN.out, ?_, ?_, ?_⟩
                  · rw [List.length_append]
                    have := HL5.out
                    have := HL6.out
                    simp
                    omega
                  · exact LexSt.next HST.out hB.out hTR.out HOW.out HGR.out HLIE.out
                  · rw [HG.out, HNX.out, List.map_append, List.length_append]
                    cases lexG (L.length + 1) (s.data.toList.drop n) <;> simp [Except.map]
                case measure =>
                  have := HPN.out
                  have := HNN.out
                  simp [intOf]
                  omega
        · have HF : Hid (lexR s.data.toList = (L.map TB.t, 0, 0)) := Lib.hid (by
            rw [lexR_in H1.out H2.out, HG.out, List.drop_of_length_le (by rw [ba_l]; omega)]
            show (match (Except.ok (L.map TB.t ++ []) : Except (Int × Nat) (List Tk)) with | .ok ts => (ts, (0 : Int), (0 : Int)) | .error (e, k) => ([], (s.data.toList.length : Int) - k, e)) = _
            rw [List.append_nil])
          go_wp2_with fail
          (try simp only [Exit.inBlock, Exit.then])
          refine bodyPost_ret (results_tmp3 rfl _ _ _) rfl ?_
          exact LexTo.good HST.out HF.out
    · have HC : Hid (chkE s = 50) := Lib.hid (by unfold chkE; rw [if_neg h1, if_neg (show ¬ (pts s.data.toList).isSome = true from h2)])
      have HF : Hid (lexR s.data.toList = ([], 0, 50)) := Lib.hid (by unfold lexR; rw [if_neg (by omega), if_neg h2])
      clear h1 h2 hsl
      go_enter Tryz.func15, Tryz.ntmps15
      go_wp2_with (first
        | (go_at_call 29; (with_reducible refine (rcheck_any s w HM.out 50 HC.out).mono ?_); rintro e w1 ⟨rfl, hb1⟩)
        | fail)
      (try simp only [Exit.inBlock, Exit.then])
      refine bodyPost_ret (results_tmp3 rfl _ _ _) rfl ?_
      exact LexTo.bad hb1 HF.out
end Hx
end Go.Proofs.YtichboamakgabaaGreatDoor
namespace Go.Proofs.YtichboamakgabaaGreatDoor
open Go.RowKit
namespace Hx
open Lx Tx Nmb Es
set_option linter.unusedVariables false
deriving instance DecidableEq for Pr
deriving instance DecidableEq for Tk
theorem take_step {α : Type} {l m : List α} {k : Nat} (h1 : k < l.length) (h2 : k < m.length) (h : l.take k = m.take k) (he : l[k]'h1 = m[k]'h2) : l.take (k + 1) = m.take (k + 1) := by
  rw [List.take_succ_eq_append_getElem h1, List.take_succ_eq_append_getElem h2, h, he]
theorem pr_eq {a b : Pr} (h1 : a.name = b.name) (h2 : a.value = b.value) : a = b := by
  cases a; cases b
  dsimp only at h1 h2
  rw [h1, h2]
theorem ne_at {α : Type} {l m : List α} {k : Nat} (h1 : k < l.length) (h2 : k < m.length) (he : l[k]'h1 ≠ m[k]'h2) : l ≠ m := by
  rintro rfl
  exact he rfl
set_option maxHeartbeats 4000000 in
set_option maxRecDepth 100000 in
theorem rpairs9 (A A2 : Option Addr) (n cp n2 cp2 : Nat) (l l2 : List Pr) (w : World) (hr : RdC PrC w w.heap.size A l) (hn : l.length = n) (hr2 : RdC PrC w w.heap.size A2 l2) (hn2 : l2.length = n2) (hm : n ≤ 1000000) (hm2 : n2 ≤ 1000000) (q : Bool) (h : decide (l = l2) = q) :
    Calls Tryz.prog 31 #[.slice A n cp, .slice A2 n2 cp2] w fun e w' => e = .returned (.bool q) ∧ Below w.heap.size w w' := by
  have HR := Lib.hid hr
  have HN := Lib.hid hn
  have HR2 := Lib.hid hr2
  have HN2 := Lib.hid hn2
  have HM := Lib.hid hm
  have HH := Lib.hid h
  clear hr hn hr2 hn2 h
  by_cases hne : n = n2
  · subst hne
    have f0 : ((n : Int) != (n : Int)) = false := by simp
    go_enter Tryz.func31, Tryz.ntmps31
    go_wp2_with fail
    go_loopw [5] (fun i wr => ∃ k : Nat, k ≤ n ∧ i = .int .i64 k ∧ l.take k = l2.take k ∧ Below w.heap.size w wr) (fun i _ => n - (intOf i).toNat)
    case atStart => exact ⟨0, Nat.zero_le _, rfl, rfl, Below.refl _ _⟩
    case round =>
      obtain ⟨k, hk, rfl, hno, hbw⟩ := hrel
      have hm := HM.out
      have HBW := Lib.hid hbw
      by_cases hlt : k < n
      · have hk1 : k < l.length := by rw [HN.out]; exact hlt
        have hk2 : k < l2.length := by rw [HN2.out]; exact hlt
        obtain ⟨b0, off, rfl, hbB, hc⟩ := (HR.out.on hbw) (by omega)
        obtain ⟨cs, ⟨x, y, rfl, hx, hy⟩, hcell⟩ := hc k hk1
        obtain ⟨b1, of1, rfl, hbB1, hc1⟩ := (HR2.out.on hbw) (by omega)
        obtain ⟨cs1, ⟨x1, y1, rfl, hx1, hy1⟩, hcell1⟩ := hc1 k hk2
        have c0 : wr.cell? ⟨b0, off + k * 2, none⟩ = some (.string x) := hcell 0 (by simp)
        have c1 : wr.cell? ⟨b0, off + k * 2 + 1, none⟩ = some (.string y) := hcell 1 (by simp)
        have c2 : wr.cell? ⟨b1, of1 + k * 2, none⟩ = some (.string x1) := hcell1 0 (by simp)
        have c3 : wr.cell? ⟨b1, of1 + k * 2 + 1, none⟩ = some (.string y1) := hcell1 1 (by simp)
        clear hbw hc hc1 hcell hcell1
        have bk : (0 : Int) ≤ (k : Int) ∧ (k : Int) < (n : Int) := by omega
        by_cases hxy : x = x1 ∧ y = y1
        · obtain ⟨rfl, rfl⟩ := hxy
          go_wp2_with fail
          go_quiet (fail)
          go_wp2_with fail
          have HT : Hid (l.take (k + 1) = l2.take (k + 1)) := Lib.hid (take_step hk1 hk2 hno (pr_eq (hx.symm.trans hx1) (hy.symm.trans hy1)))
          clear hx hx1 hy hy1 hno
          go_roundw
          case rel => exact ⟨k + 1, by omega, by go_num, HT.out, below_drewN HBW.out _⟩
          case measure => simp [intOf]; omega
        · have hq : (x.toList == x1.toList && y.toList == y1.toList) = false := by
            rw [seq_l, seq_l]
            simp only [Bool.and_eq_false_iff, decide_eq_false_iff_not]
            by_cases h5 : x = x1
            · exact .inr fun e => hxy ⟨h5, ba_x e⟩
            · exact .inl fun e => h5 (ba_x e)
          obtain rfl : false = q := by
            rw [← HH.out, eq_comm, decide_eq_false_iff_not]
            refine ne_at hk1 hk2 fun e => hxy ⟨ba_x ?_, ba_x ?_⟩
            · rw [hx, hx1, e]
            · rw [hy, hy1, e]
          clear hx hx1 hy hy1 hno hxy
          rcases Bool.and_eq_false_iff.1 hq with q1 | q1
          · have q2 : ¬ x.toList = x1.toList := by simpa using q1
            go_wp2_with fail
            clear hq
            go_quiet (fail)
            go_wp2_with fail
            go_ret
            exact ⟨rfl, below_drewN HBW.out _⟩
          · have q2 : ¬ y.toList = y1.toList := by simpa using q1
            go_wp2_with fail
            clear hq
            go_quiet (fail)
            go_wp2_with fail
            go_ret
            exact ⟨rfl, below_drewN HBW.out _⟩
      · obtain rfl : k = n := by omega
        obtain rfl : true = q := by
          rw [← HH.out, eq_comm, decide_eq_true_eq]
          rwa [List.take_of_length_le (by rw [HN.out]; exact Nat.le_refl _), List.take_of_length_le (by rw [HN2.out]; exact Nat.le_refl _)] at hno
        clear hno
        go_wp2_with fail
        go_ret
        exact ⟨rfl, HBW.out⟩
  · have d0 : ((n : Int) != (n2 : Int)) = true := by simp; omega
    have d1 : (n != n2) = true := by simpa using hne
    have d2 : (n == n2) = false := by simpa using hne
    obtain rfl : false = q := by
      rw [← HH.out, eq_comm, decide_eq_false_iff_not]
      rintro rfl
      exact hne (HN.out.symm.trans HN2.out)
    clear hne
    go_enter Tryz.func31, Tryz.ntmps31
    go_wp2_with fail
    go_ret
    exact ⟨rfl, Below.refl _ _⟩
end Hx
end Go.Proofs.YtichboamakgabaaGreatDoor
