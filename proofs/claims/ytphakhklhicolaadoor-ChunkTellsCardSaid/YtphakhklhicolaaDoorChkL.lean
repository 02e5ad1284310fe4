/-
  The library's strconv.AppendInt at base 16, for sizes of chunks.
-/
import Derived.Test.YtphakhklhicolaaDoorChkN
import Derived.Test.YtphakhklhicolaaDoorMemG
import Derived.Lib.AppendIntMem
import Derived.Laws.Bits64b
import Derived.Deep.WholeRow
import Derived.Sort.LoopGhostIn
namespace Go.Proofs.YtphakhklhicolaaDoor
open Go.RowKit
namespace Hx
open Ck
set_option linter.unusedVariables false
set_option linter.unusedSimpArgs false
/-- The cell of the library's table that is read for base 16. -/
def Tb (w : World) : Prop := w.cell? ⟨2, 15, none⟩ = some (.int .u8 4)
theorem Tb.lt {w : World} (h : Tb w) : 2 < w.heap.size := World.block_lt_of_cell? _ _ h
theorem Tb.to {B : Nat} {w w' : World} (h : Tb w) (hb : Below B w w') (hB : 2 < B) : Tb w' := (hb.cell (p := ⟨2, 15, none⟩) hB).trans h
theorem tz_key : IntKind.u64.wrap (bits BinOp.and IntKind.u64 16 (IntKind.u64.wrap (-16)) * 285870213051353865) / 288230376151711744 = 15 := by decide +kernel
theorem tz64 (w : World) (hT : Tb w) : Calls Tryd.prog 37 #[.int .u64 16] w fun e w' => e = .returned (.int .i64 4) ∧ w = w' := by
  unfold Tb at hT
  have key := tz_key
  go_enter Tryd.func37, Tryd.ntmps37
  go_wp2_with (simp only [key])
  go_ret
  exact ⟨rfl, rfl⟩
theorem tz16 (w : World) (hT : Tb w) : Calls Tryd.prog 35 #[.int .u64 16] w fun e w' => e = .returned (.int .i64 4) ∧ w = w' := by
  go_enter Tryd.func35, Tryd.ntmps35
  go_wp2_with (first
    | (go_at_call 37; (with_reducible refine (tz64 w hT).mono ?_); rintro e1 w1 ⟨rfl, rfl⟩)
    | fail)
  go_ret
  exact ⟨rfl, rfl⟩
theorem pow_key : bits BinOp.and IntKind.i64 16 15 = 0 := by decide +kernel
theorem pow16 (w : World) : Calls Tryd.prog 34 #[.int .i64 16] w fun e w' => e = .returned (.bool true) ∧ w = w' := by
  have key := pow_key
  go_enter Tryd.func34, Tryd.ntmps34
  go_wp2_with (simp only [key])
  go_ret
  exact ⟨rfl, rfl⟩
/-- The digits' text. -/
def DG : ByteArray := ⟨#[48, 49, 50, 51, 52, 53, 54, 55, 56, 57, 97, 98, 99, 100, 101, 102, 103, 104, 105, 106, 107, 108, 109, 110, 111, 112, 113, 114, 115, 116, 117, 118, 119, 120, 121, 122]⟩
theorem hx_at0 : ∀ j : Fin 16, DG[j.val]'(by have := j.isLt; show _ < 36; omega) = hx j.val := by decide
theorem hx_at : ∀ j : Nat, j < 16 → (h : j < DG.size) → DG[j]'h = hx j := by
  intro j h' h
  exact hx_at0 ⟨j, h'⟩
/-- The local array: its last bytes. -/
def Buf (b : Nat) (ds : List UInt8) (w : World) : Prop := ∃ cur : Array Value, w.heap[b]? = some (.cells cur 66 (0, 0)) ∧ cur.size = 65 ∧ ds.length ≤ 65 ∧ ∀ j (h : j < ds.length), cur[65 - ds.length + j]? = some (.int .u8 (ds[j]'h).toNat)
theorem Buf.put {b m : Nat} {ds : List UInt8} {w : World} (h : Buf b ds w) (hm : m + 1 + ds.length = 65) (c : UInt8) : Buf b (c :: ds) (w.setCell ⟨b, m, none⟩ (.int .u8 c.toNat)) := by
  obtain ⟨cur, h1, h2, h3, h4⟩ := h
  refine ⟨cur.setIfInBounds m (.int .u8 c.toNat), by simp [World.setCell, Array.getElem?_modify, h1], by rw [Array.size_setIfInBounds, h2], by rw [List.length_cons]; omega, ?_⟩
  intro j hj
  rw [List.length_cons] at hj ⊢
  cases j with
  | zero =>
    rw [show 65 - (ds.length + 1) + 0 = m by omega, Array.getElem?_setIfInBounds_self_of_lt (by omega)]
    rfl
  | succ j =>
    rw [show 65 - (ds.length + 1) + (j + 1) = 65 - ds.length + j by omega, Array.getElem?_setIfInBounds_ne (by omega), h4 j (by omega)]
    rfl
theorem Buf.lt {b : Nat} {ds : List UInt8} {w : World} (h : Buf b ds w) : b < w.heap.size := by
  obtain ⟨cur, h1, _⟩ := h
  exact (Array.getElem?_eq_some_iff.1 h1).1
theorem Buf.cell {b : Nat} {ds : List UInt8} {w : World} (h : Buf b ds w) (m : Nat) (hm : m < 65) : ∃ v, w.cell? ⟨b, m, none⟩ = some v := by
  obtain ⟨cur, h1, h2, _⟩ := h
  exact ⟨cur[m]'(by omega), by simp [World.cell?, h1, show m < cur.size by omega]⟩
theorem Buf.free {b : Nat} {ds : List UInt8} {w : World} (h : Buf b ds w) (m : Nat) : w.frozen? ⟨b, m, none⟩ = false := by
  obtain ⟨cur, h1, h2, _⟩ := h
  simp [World.frozen?, h1]
theorem Buf.rd {b : Nat} {ds : List UInt8} {w : World} (h : Buf b ds w) : RdA w w.heap.size (some ⟨b, 65 - ds.length, none⟩) ds := by
  have hl := h.lt
  obtain ⟨cur, h1, h2, h3, h4⟩ := h
  intro _
  refine ⟨b, _, rfl, hl, fun j hj => ?_⟩
  have := h4 j hj
  have hlt : 65 - ds.length + j < cur.size := by omega
  simp [World.cell?, h1] at this ⊢
  exact this
theorem new_at (w : World) (o : Obj) : (w.alloc o).heap[w.heap.size]? = some o := heap_alloc_new w o
theorem Buf.new {w : World} {cur : Array Value} (h : cur.size = 65) : Buf w.heap.size [] (w.alloc (.cells cur 66)) := ⟨cur, new_at w _, h, by simp, fun j hj => by cases hj⟩
def z65 : Array Value := ((List.replicate 65 (0 : UInt8)).map fun b => Value.int .u8 b.toNat).toArray
theorem zero65 : ∀ w, (zeroValue 66).run Tryd.prog w = .ok (.agg z65) w := (zero_of_info (n := 65) (by kernel_rfl)).1
theorem len65 : Tryd.prog.arrayLen 66 = 65 := by simp [Program.arrayLen, Tryd.underlying66]
theorem slice65 (b m n : Nat) (W : World) (h : m + n = 65) (hn : 0 < n) : (Instr.sliceAt 66 (.pointer (some ⟨b, 0, none⟩)) (some (.int .i64 (m : Int))) none none).run Tryd.prog W = .ok (.slice (some ⟨b, m, none⟩) n n) W := by
  rw [run_sliceAt_array_l W 66 ⟨b, 0, none⟩ (by simp [Program.arrayLen, Program.elem, Tryd.underlying66]) .i64 (m : Int) (by omega) (by rw [len65]; omega)]
  go_simp
  exact ⟨fun _ => by omega, by omega⟩
theorem infoU8c : (Tryd.prog.info? 5).map (fun i => (i.zero, i.size, i.bytes)) = some (some (.int .u8 0), 1, 1) := by kernel_rfl
theorem and15 (k : Nat) (h : k ≤ 8192) : bits BinOp.and IntKind.u64 (k : Int) 15 = ((k % 16 : Nat) : Int) := by
  have := bits_and_u64_nat k 15 (by omega) (by omega)
  rw [show ((15 : Nat) : Int) = 15 from rfl] at this
  rw [this, show (15 : Nat) = 2 ^ 4 - 1 from rfl, Nat.and_two_pow_sub_one_eq_mod]
set_option maxHeartbeats 8000000 in
set_option maxRecDepth 100000 in
/-- formatBits at base 16, appending. -/
theorem fbits16 (n B : Nat) (l : List UInt8) (v : Value) (w : World) (h0 : 0 < n) (hn : n ≤ 8192) (hl : l.length ≤ 1000000) (hown : w.ownsRow B 5 1 v l.length (Lib.byteCells l)) (hB : B ≤ w.heap.size) (hT : Tb w) :
    Calls Tryd.prog 30 #[v, .int .u64 n, .int .i64 16, .bool false, .bool true] w fun e w' => ∃ v', e = .returned (.tuple #[v', .string ⟨#[]⟩]) ∧ w'.ownsRow B 5 1 v' (l ++ hexL n).length (Lib.byteCells (l ++ hexL n)) ∧ Below B w w' := by
  obtain ⟨i0, hi, hz0, hz1, hz2⟩ := info_parts infoU8c
  have HI := Lib.hid hi
  have HZ0 := Lib.hid hz0
  have HZ1 := Lib.hid hz1
  have HZ2 := Lib.hid hz2
  have HO := Lib.hid hown
  have HN := Lib.hid hn
  have HL := Lib.hid (hexL_len 4 n (by omega))
  have HL0 := Lib.hid hl
  clear hi hz0 hz1 hz2 hown hl
  have hz65 := zero65
  go_enter Tryd.func30, Tryd.ntmps30
  go_wp2_with (first
    | (go_at_call 34; (with_reducible refine (pow16 _).mono ?_); rintro e1 w1 ⟨rfl, rfl⟩)
    | (go_at_call 35; (with_reducible refine (tz16 _ (hT.to (((Below.refl w.heap.size w).alloc (Nat.le_refl _) _)) hT.lt)).mono ?_); rintro e1 w1 ⟨rfl, rfl⟩)
    | fail)
  go_loopw [1, 13] (fun u i wr => ∃ (k m : Nat) (ds : List UInt8), u = .int .u64 k ∧ i = .int .i64 m ∧ m + ds.length = 65 ∧ 0 < k ∧ k ≤ 8192 ∧ hexL n = hexL k ++ ds ∧ Buf w.heap.size ds wr ∧ Below w.heap.size w wr) (fun u _ _ => (intOf u).toNat)
  case atStart => exact ⟨n, 65, [], rfl, rfl, rfl, h0, hn, by simp, Buf.new rfl, (Below.refl _ _).alloc (Nat.le_refl _) _⟩
  case round =>
    obtain ⟨k, m, ds, rfl, rfl, hm, hk0, hk, hd, hbuf, hbw⟩ := hrel
    obtain ⟨m, rfl⟩ : ∃ m', m = m' + 1 := ⟨m - 1, by
      have h1 := congrArg List.length hd
      rw [List.length_append] at h1
      have := HL.out
      omega⟩
    have hds : ds.length ≤ 4 := by
      have h1 := congrArg List.length hd
      rw [List.length_append] at h1
      have := HL.out
      omega
    have HB := Lib.hid hbuf
    have HD := Lib.hid hd
    have HBW := Lib.hid hbw
    have HM := Lib.hid hm
    have e1 : ((m + 1 : Nat) : Int) - 1 = (m : Int) := by omega
    have bm : (0 : Int) ≤ (m : Int) ∧ (m : Int) < 65 := by omega
    obtain ⟨old, hc⟩ := hbuf.cell m (by omega)
    have hf := hbuf.free m
    clear hbuf hd hbw
    by_cases h16 : 16 ≤ k
    · have d0 : decide ((16 : Int) ≤ (k : Int)) = true := decide_eq_true (by omega)
      obtain ⟨q, hq⟩ : ∃ q, k / 16 = q := ⟨_, rfl⟩
      obtain ⟨r, hr⟩ : ∃ r, k % 16 = r := ⟨_, rfl⟩
      have hr16 : r < 16 := by omega
      have ha := and15 k hk
      rw [hr] at ha
      have br : (0 : Int) ≤ (r : Int) ∧ (r : Int) < 36 := by omega
      obtain ⟨c, hcx⟩ : ∃ c, hx r = c := ⟨_, rfl⟩
      have hix : ∀ h, ((⟨#[48, 49, 50, 51, 52, 53, 54, 55, 56, 57, 97, 98, 99, 100, 101, 102, 103, 104, 105, 106, 107, 108, 109, 110, 111, 112, 113, 114, 115, 116, 117, 118, 119, 120, 121, 122]⟩ : ByteArray)[r]'h) = c := fun h => (hx_at r hr16 h).trans hcx
      have eq : (k : Int) / 16 = (q : Int) := by omega
      go_wp2_with fail
      go_roundw
      case rel =>
        refine ⟨q, m, c :: ds, rfl, rfl, by rw [List.length_cons]; have := HM.out; omega, by omega, by omega, ?_, HB.out.put HM.out c, HBW.out.setCell (by simp) _⟩
        rw [HD.out, hexL_pos (by omega), hq, hr, hcx]
        simp
      case measure => simp only [intOf]; omega
    · have d0 : decide ((16 : Int) ≤ (k : Int)) = false := decide_eq_false (by omega)
      obtain ⟨c, hcx⟩ : ∃ c, hx k = c := ⟨_, rfl⟩
      have bk : (0 : Int) ≤ (k : Int) ∧ (k : Int) < 36 := by omega
      have hix : ∀ h, ((⟨#[48, 49, 50, 51, 52, 53, 54, 55, 56, 57, 97, 98, 99, 100, 101, 102, 103, 104, 105, 106, 107, 108, 109, 110, 111, 112, 113, 114, 115, 116, 117, 118, 119, 120, 121, 122]⟩ : ByteArray)[k]'h) = c := fun h => (hx_at k (by omega) h).trans hcx
      obtain ⟨W, hW⟩ : ∃ W, wr.setCell ⟨w.heap.size, m, none⟩ (.int .u8 c.toNat) = W := ⟨_, rfl⟩
      have HB2 : Hid (Buf w.heap.size (c :: ds) W) := Lib.hid (by rw [← hW]; exact HB.out.put HM.out c)
      have HBW2 : Hid (Below w.heap.size w W) := Lib.hid (by rw [← hW]; exact HBW.out.setCell (by simp) _)
      have hsz := HBW2.out.size
      have HO2 := Lib.hid (own_below HO.out HBW2.out (Nat.le_refl _))
      have HX : Hid (hexL n = c :: ds) := by
        show _ = _
        rw [HD.out, hexL_pos hk0, show k / 16 = 0 by omega, show k % 16 = k by omega, hexL_0, hcx]
        rfl
      have hml : (c :: ds).length = ds.length + 1 := rfl
      have hmm : 65 - (ds.length + 1) = m := by have := HM.out; omega
      have HR := Lib.hid HB2.out.rd
      rw [hml, hmm] at HR
      have hsl := fun W => slice65 w.heap.size m (ds.length + 1) W (by have := HM.out; omega) (by omega)
      go_wp2_with (first
        | (at_builtin; go_loud (refine wpList_append_rd rfl (.tmp 95) (.tmp 97) 29 rfl B 5 i0 (.int .u8 0) Tryd.underlying29 HI.out HZ0.out HZ1.out HZ2.out rfl v l.length _ rfl HO2.out W.heap.size (some ⟨w.heap.size, m, none⟩) (ds.length + 1) (ds.length + 1) (c :: ds) rfl HR.out rfl (fun h => by cases h) (by have := HL0.out; omega) (by omega) ?_); intro v4 w4 hown4 hgr4; have HO4 := Lib.hid hown4; have HG4 := Lib.hid hgr4; clear hown4 hgr4)
        | fail)
      go_ret2
      refine ⟨v4, rfl, ?_, (HBW2.out.mono hB).grown HG4.out (by omega) (fun g hg => (HO2.out.lt g hg).1)⟩
      rw [HX.out, Lib.byteCells_append]
      exact HO4.out
set_option maxHeartbeats 8000000 in
set_option maxRecDepth 100000 in
theorem aint16 (n B : Nat) (l : List UInt8) (v : Value) (w : World) (h0 : 0 < n) (hn : n ≤ 8192) (hl : l.length ≤ 1000000) (hown : w.ownsRow B 5 1 v l.length (Lib.byteCells l)) (hB : B ≤ w.heap.size) (hT : Tb w) :
    Calls Tryd.prog 16 #[v, .int .i64 n, .int .i64 16] w fun e w' => ∃ v', e = .returned v' ∧ w'.ownsRow B 5 1 v' (l ++ hexL n).length (Lib.byteCells (l ++ hexL n)) ∧ Below B w w' := by
  have H1 : Hid (Calls Tryd.prog 30 #[v, .int .u64 n, .int .i64 16, .bool false, .bool true] w fun e w' => ∃ v', e = .returned (.tuple #[v', .string ⟨#[]⟩]) ∧ w'.ownsRow B 5 1 v' (l ++ hexL n).length (Lib.byteCells (l ++ hexL n)) ∧ Below B w w') := Lib.hid (fbits16 n B l v w h0 hn hl hown hB hT)
  have H2 : Hid (Calls Tryd.prog 25 #[v, .int .u64 n, .int .i64 16] w fun e w' => ∃ v', e = .returned v' ∧ w'.ownsRow B 5 1 v' (l ++ hexL n).length (Lib.byteCells (l ++ hexL n)) ∧ Below B w w') := Lib.hid (by
    clear hown hB hT hn
    go_enter Tryd.func25, Tryd.ntmps25
    go_wp2_with (first
      | (go_at_call 30; (with_reducible refine (H1.out).mono ?_); rintro e1 w1 ⟨v1, rfl, ho1, hb1⟩; have HO1 := Lib.hid ho1; have HB1 := Lib.hid hb1; clear ho1 hb1)
      | fail)
    go_ret
    exact ⟨v1, rfl, HO1.out, HB1.out⟩)
  have H3 : Hid (Calls Tryd.prog 21 #[v, .int .i64 n, .int .i64 16] w fun e w' => ∃ v', e = .returned v' ∧ w'.ownsRow B 5 1 v' (l ++ hexL n).length (Lib.byteCells (l ++ hexL n)) ∧ Below B w w') := Lib.hid (by
    clear hown hB hT
    have g1 : IntKind.u64.wrap (n : Int) = (n : Int) := IntWalk.u64_in _ (by omega)
    have d1 : decide ((n : Int) < 0) = false := decide_eq_false (by omega)
    go_enter Tryd.func21, Tryd.ntmps21
    go_wp2_with (first
      | (go_at_call 25; (with_reducible refine (H2.out).mono ?_); rintro e1 w1 ⟨v1, rfl, ho1, hb1⟩; have HO1 := Lib.hid ho1; have HB1 := Lib.hid hb1; clear ho1 hb1)
      | fail)
    go_ret
    exact ⟨v1, rfl, HO1.out, HB1.out⟩)
  clear hown hB hT hn
  go_enter Tryd.func16, Tryd.ntmps16
  go_wp2_with (first
    | (go_at_call 21; (with_reducible refine (H3.out).mono ?_); rintro e1 w1 ⟨v1, rfl, ho1, hb1⟩; have HO1 := Lib.hid ho1; have HB1 := Lib.hid hb1; clear ho1 hb1)
    | fail)
  go_ret
  exact ⟨v1, rfl, HO1.out, HB1.out⟩
end Hx
end Go.Proofs.YtphakhklhicolaaDoor
