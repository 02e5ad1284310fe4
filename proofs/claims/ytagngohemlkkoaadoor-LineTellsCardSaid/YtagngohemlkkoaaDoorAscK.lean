/-
  The contract of ascii.kinds: an array of what each byte is.
-/
import Derived.Test.YtagngohemlkkoaaDoorAscR
import Derived.Test.YtagngohemlkkoaaDoorMemA
import Derived.Lib.OthersKept
import Derived.Laws.RangeAny
import Derived.Deep.WholeRow
import Derived.Deep.LoopGhost
namespace Go.Proofs.YtagngohemlkkoaaDoor
open Go.RowKit
namespace Hx
open As
set_option linter.unusedVariables false
/-- What a byte is: 1 a blank, 2 of plain texts, 3 a great letter, 4 of tokens, 0 none of these. -/
def kindOf (c : UInt8) : UInt8 := if blk c = true then 1 else if tokb c = true then (if 65 ≤ c.toNat ∧ c.toNat ≤ 90 then 3 else 4) else if plb c = true then 2 else 0
def kd : List UInt8 := (List.range 256).map fun n => kindOf (UInt8.ofNat n)
theorem kd_length : kd.length = 256 := by simp [kd]
theorem kd_get (c : UInt8) (h : c.toNat < kd.length) : kd[c.toNat]'h = kindOf c := by
  simp [kd]
theorem kind_blank (c : UInt8) : decide (kindOf c = 1) = blk c := u8_all (fun c => decide (kindOf c = 1) = blk c) (by decide +kernel) c
theorem kind_great (c : UInt8) : decide (kindOf c = 3) = (decide (65 ≤ c.toNat) && decide (c.toNat ≤ 90)) := u8_all (fun c => decide (kindOf c = 3) = (decide (65 ≤ c.toNat) && decide (c.toNat ≤ 90))) (by decide +kernel) c
theorem kind_tok (c : UInt8) : decide ((kindOf c).toNat < 3) = !tokb c := u8_all (fun c => decide ((kindOf c).toNat < 3) = !tokb c) (by decide +kernel) c
theorem kind_plain (c : UInt8) : decide ((kindOf c).toNat < 1) = !plb c := u8_all (fun c => decide ((kindOf c).toNat < 1) = !plb c) (by decide +kernel) c
def encK (c : UInt8) : Value := .int .u8 (c.toNat : Int)
theorem encK_one (x : UInt8) : (encK x).oneCell' = true := rfl
theorem foldl_take {α β : Type} (f : β → α → β) (b : β) {ss : List α} {k : Nat} {x : α} (h : ss[k]? = some x) : (ss.take (k + 1)).foldl f b = f ((ss.take k).foldl f b) x := by
  obtain ⟨hk, e⟩ := List.getElem?_eq_some_iff.1 h
  rw [List.take_succ_eq_append_getElem hk, List.foldl_append, e]
  rfl
theorem foldl_len {α : Type} (f : List UInt8 → α → List UInt8) (hf : ∀ l x, (f l x).length = l.length) (ss : List α) : ∀ l, (ss.foldl f l).length = l.length := by
  induction ss with
  | nil => intro l; rfl
  | cons x ss ih => intro l; rw [List.foldl_cons, ih, hf]
def z256 : List UInt8 := List.replicate 256 0
def p1 (l : List UInt8) (i : Nat) : List UInt8 := l.set (i + 32) 2
def p2 (l : List UInt8) (c : UInt8) : List UInt8 := l.set c.toNat 1
def p3 (l : List UInt8) (c : UInt8) : List UInt8 := l.set c.toNat 4
def p4 (l : List UInt8) (i : Nat) : List UInt8 := (l.set (i + 97) 4).set (i + 65) 3
def m3 : List UInt8 := [33, 35, 36, 37, 38, 39, 42, 43, 45, 46, 94, 95, 96, 124, 126, 48, 49, 50, 51, 52, 53, 54, 55, 56, 57]
theorem kd_made : (List.range 26).foldl p4 (m3.foldl p3 (([32, 9] : List UInt8).foldl p2 (((List.range 224).foldl p1 z256).set 127 0))) = kd := by decide +kernel
def zero256 : Array Value := (z256.map encK).toArray
theorem size256 : (Tryd.prog.info? 71).map (·.size) = some 256 := by kernel_rfl
theorem zero_256 : ∀ w, (zeroValue 71).run Tryd.prog w = .ok (.agg zero256) w := (zero_of_info (n := 256) (by kernel_rfl)).1
theorem Blk.iterAt {α : Type} {enc : α → Value} {w : World} {B t k : Nat} {l : List α} (h : Blk enc w B t l) (hk : B ≠ k) (s : ByteArray) (pos : Nat) : Blk enc (w.iterAt k s pos) B t l := (Lib.iterAt_other w k B s pos hk).trans h
theorem Blk.alloc {α : Type} {enc : α → Value} {w : World} {B t : Nat} {l : List α} (h : Blk enc w B t l) (o : Obj) : Blk enc (w.alloc o) B t l := h.below (stpA (Below.refl _ _) o)

/-- A store of a byte's kind into the array. -/
theorem blk_cell {w : World} {B t : Nat} {l : List UInt8} (h : Blk encK w B t l) (j : Nat) (hj : j < l.length) : ∃ v : Int, w.cell? ⟨B, j, none⟩ = some (.int .u8 v) ∧ w.frozen? ⟨B, j, none⟩ = false := ⟨_, h.cell j hj, h.free j⟩
/-- A step of a range over a constant text of bytes below 128. -/
theorem next_lit {P : Program} (w : World) (k : Nat) (s : ByteArray) (L : List UInt8) (hL : s.data.toList = L) (ha : ∀ c ∈ L, c.toNat < 128) (pos : Nat) (hk : w.heap[k]? = some (.stringIter s pos)) (h : pos < L.length) :
    ∃ c, L[pos]? = some c ∧ c.toNat < 128 ∧ ∀ ty, (Instr.next (.pointer (some ⟨k, 0, none⟩)) true ty).run P w = .ok (.tuple #[.bool true, .int .i64 pos, .int .i32 c.toNat]) (w.iterAt k s (pos + 1)) := by
  have hs : pos < s.size := by rw [← ba_len7, hL]; exact h
  have e : s[pos]'hs = L[pos]'h := by simp only [← hL]; rfl
  refine ⟨L[pos]'h, List.getElem?_eq_getElem h, ha _ (List.getElem_mem h), fun ty => ?_⟩
  rw [Lib.run_next_ascii_at w k s pos ty hk hs (by rw [e]; exact ha _ (List.getElem_mem h)), e]

/-- The memory of kinds' two arrays while it runs. -/
def KI (w wr : World) (l : List UInt8) : Prop := Blk encK wr (w.heap.size + 1) 71 l ∧ wr.heap[w.heap.size]? = some (.cells zero256 71 (0, 0)) ∧ Below w.heap.size w wr ∧ w.heap.size + 1 + 1 ≤ wr.heap.size
theorem KI.new (w : World) : KI w ((w.alloc (.cells zero256 71)).alloc (.cells zero256 71)) z256 := by
  refine ⟨?_, ?_, stpA (stpA (Below.refl _ _) _) _, by simp⟩
  · have := heap_alloc_new (w.alloc (.cells zero256 71)) (.cells zero256 71)
    rw [World.size_alloc] at this
    exact this
  · exact (Below.heap_alloc (w.alloc (.cells zero256 71)) _ _ (by simp)).trans (heap_alloc_new w _)
theorem KI.put {w wr : World} {l : List UInt8} (h : KI w wr l) (j : Nat) (v : UInt8) : KI w (wr.setCell ⟨w.heap.size + 1, j, none⟩ (encK v)) (l.set j v) :=
  ⟨h.1.put j v, (heap_setCell_other _ _ _ _ (by simp)).trans h.2.1, h.2.2.1.setCell (by simp) _, by simpa using h.2.2.2⟩
theorem KI.alloc {w wr : World} {l : List UInt8} (h : KI w wr l) (o : Obj) : KI w (wr.alloc o) l :=
  ⟨h.1.alloc o, (Below.heap_alloc wr o _ (by have := h.2.2.2; omega)).trans h.2.1, stpA h.2.2.1 o, by rw [World.size_alloc]; have := h.2.2.2; omega⟩
theorem KI.iterAt {w wr : World} {l : List UInt8} {k : Nat} (h : KI w wr l) (hk : w.heap.size + 1 + 1 ≤ k) (s : ByteArray) (pos : Nat) : KI w (wr.iterAt k s pos) l :=
  ⟨h.1.iterAt (by omega) s pos, (Lib.iterAt_other wr k _ s pos (by omega)).trans h.2.1, Lib.below_iterAt h.2.2.1 (by omega) s pos, by rw [Lib.iterAt_size]; exact h.2.2.2⟩
theorem KI.at {w wr : World} {l : List UInt8} (h : KI w wr l) (hl : l.length = 256) (j : Nat) (hj : j < 256) : ∃ v : Int, wr.cell? ⟨w.heap.size + 1, j, none⟩ = some (.int .u8 v) ∧ wr.frozen? ⟨w.heap.size + 1, j, none⟩ = false :=
  blk_cell h.1 j (by omega)
theorem below_setRow7 {B g : Nat} {w0 w : World} (hb : Below B w0 w) (hBg : B ≤ g) (cs : Array Value) : Below B w0 (w.setRow g cs) :=
  hb.trans ⟨rfl, rfl, rfl, by simp [World.setRow], fun k hk => setRow_other w g k cs (by omega)⟩
theorem p1_len (l : List UInt8) (i : Nat) : (p1 l i).length = l.length := by simp [p1]
theorem p2_len (l : List UInt8) (c : UInt8) : (p2 l c).length = l.length := by simp [p2]
theorem p3_len (l : List UInt8) (c : UInt8) : (p3 l c).length = l.length := by simp [p3]
theorem p4_len (l : List UInt8) (i : Nat) : (p4 l i).length = l.length := by simp [p4]
theorem range_at {n k : Nat} (h : k < n) : (List.range n)[k]? = some k := by simp [h]
set_option maxHeartbeats 8000000 in
set_option maxRecDepth 100000 in
theorem kinds7 (O : Array Value) (w : World) (hO : (kd.map encK).toArray = O) : Calls Tryd.prog 44 #[] w fun e w' => e = .returned (.agg O) ∧ Below w.heap.size w w' := by
  have hz := zero_256
  have HO := Lib.hid hO
  clear hO
  have K0 := Lib.hid (KI.new w)
  obtain ⟨R0, hR0⟩ : ∃ R, z256 = R := ⟨_, rfl⟩
  obtain ⟨R1, hR1⟩ : ∃ R, ((List.range 224).foldl p1 R0).set 127 0 = R := ⟨_, rfl⟩
  obtain ⟨R2, hR2⟩ : ∃ R, ([32, 9] : List UInt8).foldl p2 R1 = R := ⟨_, rfl⟩
  obtain ⟨R3, hR3⟩ : ∃ R, m3.foldl p3 R2 = R := ⟨_, rfl⟩
  have l0 : R0.length = 256 := by rw [← hR0]; rfl
  have l1 : R1.length = 256 := by rw [← hR1, List.length_set, foldl_len p1 p1_len, l0]
  have l2 : R2.length = 256 := by rw [← hR2, foldl_len p2 p2_len, l1]
  have l3 : R3.length = 256 := by rw [← hR3, foldl_len p3 p3_len, l2]
  have hK : (List.range 26).foldl p4 R3 = kd := by rw [← hR3, ← hR2, ← hR1, ← hR0]; exact kd_made
  rw [hR0] at K0
  have L0 := Lib.hid l0; have L1 := Lib.hid l1; have L2 := Lib.hid l2; have L3 := Lib.hid l3
  have HR1 := Lib.hid hR1; have HR2 := Lib.hid hR2; have HR3 := Lib.hid hR3; have HK := Lib.hid hK
  clear hR0 hR1 hR2 hR3 l0 l1 l2 l3 hK
  go_enter Tryd.func44, Tryd.ntmps44
  go_wp2_with fail
  go_loopg [2] 224 (fun gg i wr => ∃ k : Nat, k + gg = 224 ∧ i = .int .i32 ((k + 32 : Nat) : Int) ∧ KI w wr (((List.range 224).take k).foldl p1 R0))
  case atStart => exact ⟨0, by omega, rfl, K0.out⟩
  case round =>
    obtain ⟨k, hk, rfl, hki⟩ := hrel
    have HKI := Lib.hid hki
    clear hki
    by_cases hlt : k < 224
    · obtain ⟨v, c1, c2⟩ := HKI.out.at (by rw [foldl_len p1 p1_len, L0.out]) (k + 32) (by omega)
      have HN : Hid (KI w (wr.setCell ⟨w.heap.size + 1, k + 32, none⟩ (.int .u8 2)) (((List.range 224).take (k + 1)).foldl p1 R0)) := by
        show KI _ _ _
        rw [foldl_take p1 R0 (range_at hlt)]
        exact HKI.out.put (k + 32) 2
      have b0 : ((k + 32 : Nat) : Int) ≤ 255 := by omega
      have b1 : (0 : Int) ≤ ((k + 32 : Nat) : Int) ∧ ((k + 32 : Nat) : Int) < 256 := by omega
      obtain ⟨m, hm⟩ : ∃ m, k + 32 = m := ⟨_, rfl⟩
      rw [hm] at c1 c2 b0 b1 HN ⊢
      have s1 : IntKind.i32.wrap ((m : Int) + 1) = ((m + 1 : Nat) : Int) := by rw [IntWalk.i32_in _ (by omega)]; omega
      have HM := Lib.hid hm
      clear hm
      go_wp2_with fail
      go_roundg (gk - 1)
      case rel => exact ⟨k + 1, by omega, by rw [← HM.out, show k + 1 + 32 = k + 32 + 1 by omega]; go_num, HN.out⟩
      case measure => omega
    · obtain rfl : k = 224 := by omega
      obtain ⟨v, c1, c2⟩ := HKI.out.at (by rw [foldl_len p1 p1_len, L0.out]) 127 (by decide)
      have HK2 : Hid (KI w (wr.setCell ⟨w.heap.size + 1, 127, none⟩ (.int .u8 0)) R1) := by show KI _ _ _; rw [← HR1.out]; exact HKI.out.put 127 0
      obtain ⟨W2, hW2⟩ : ∃ W2, wr.setCell ⟨w.heap.size + 1, 127, none⟩ (.int .u8 0) = W2 := ⟨_, rfl⟩
      rw [hW2] at HK2
      have HW2 := Lib.hid hW2
      have HSZ : Hid (wr.heap.size = W2.heap.size) := by show _ = _; rw [← hW2]; simp
      clear hW2
      go_wp2_with fail
      rw [HW2.out, HSZ.out]
      have HB0 := Lib.hid (HK2.out.2.2.2)
      have HKi2 : Hid (KI w (W2.iter ⟨#[32, 9]⟩ 0) R1) := Lib.hid (HK2.out.alloc _)
      have hit2 := World.iter_heap W2 ⟨#[32, 9]⟩ 0
      obtain ⟨B2, hB2⟩ : ∃ B, W2.heap.size = B := ⟨_, rfl⟩
      have hsB2 : w.heap.size + 1 + 1 ≤ B2 := by rw [← hB2]; exact HB0.out
      rw [hB2] at hit2
      rw [hB2]
      have HIT2 := Lib.hid hit2
      clear hit2 hB2 HB0
      go_loopg [] 2 (fun gg wr => ∃ k : Nat, k + gg = 2 ∧ wr.heap[B2]? = some (.stringIter ⟨#[32, 9]⟩ k) ∧ KI w wr ((([32, 9] : List UInt8).take k).foldl p2 R1))
      case atStart => exact ⟨0, by omega, HIT2.out, HKi2.out⟩
      case round =>
        obtain ⟨k, hk, hit, hki⟩ := hrel
        have HKI := Lib.hid hki
        have HIT := Lib.hid hit
        clear hki hit
        by_cases hlt : k < 2
        · obtain ⟨c, hc, hasc, hnx⟩ := next_lit (P := Tryd.prog) wr B2 ⟨#[32, 9]⟩ [32, 9] rfl (by decide) k HIT.out hlt
          have HK2 := HKI.out.iterAt hsB2 ⟨#[32, 9]⟩ (k + 1)
          have hit2 := Lib.iterAt_heap wr B2 ⟨#[32, 9]⟩ k (k + 1) HIT.out
          obtain ⟨W, hW⟩ : ∃ W, wr.iterAt B2 ⟨#[32, 9]⟩ (k + 1) = W := ⟨_, rfl⟩
          rw [hW] at hnx HK2 hit2
          obtain ⟨v, c1, c2⟩ := HK2.at (by rw [foldl_len p2 p2_len, L1.out]) c.toNat (by omega)
          have HN : Hid (KI w (W.setCell ⟨w.heap.size + 1, c.toNat, none⟩ (.int .u8 1)) ((([32, 9] : List UInt8).take (k + 1)).foldl p2 R1)) := by
            show KI _ _ _
            rw [foldl_take p2 R1 hc]
            exact HK2.put c.toNat 1
          have HI2 : Hid ((W.setCell ⟨w.heap.size + 1, c.toNat, none⟩ (.int .u8 1)).heap[B2]? = some (.stringIter ⟨#[32, 9]⟩ (k + 1))) := by
            show _ = _
            rw [heap_setCell_other _ _ _ _ (show B2 ≠ w.heap.size + 1 by omega)]
            exact hit2
          have b1 : (0 : Int) ≤ (c.toNat : Int) ∧ (c.toNat : Int) < 256 := by omega
          clear hW HK2 hit2 hc hasc
          go_wp2_with fail
          go_roundg (gk - 1)
          case rel => exact ⟨k + 1, by omega, HI2.out, HN.out⟩
          case measure => omega
        · obtain rfl : k = 2 := by omega
          have hnx : ∀ ty, (Instr.next (.pointer (some ⟨B2, 0, none⟩)) true ty).run Tryd.prog wr = _ := fun ty => Lib.run_next_end_at wr B2 ⟨#[32, 9]⟩ 2 ty HIT.out (by decide)
          have HK3 : Hid (KI w wr R2) := by show KI _ _ _; rw [← HR2.out]; exact HKI.out
          clear HKI HIT
          obtain ⟨W3, hW3⟩ : ∃ W3, wr = W3 := ⟨_, rfl⟩
          rw [hW3] at HK3 hnx
          rw [hW3]
          clear hW3
          go_wp2_with fail
          have HB0 := Lib.hid (HK3.out.2.2.2)
          have HKi3 : Hid (KI w (W3.iter ⟨#[33, 35, 36, 37, 38, 39, 42, 43, 45, 46, 94, 95, 96, 124, 126, 48, 49, 50, 51, 52, 53, 54, 55, 56, 57]⟩ 0) R2) := Lib.hid (HK3.out.alloc _)
          have hit3 := World.iter_heap W3 ⟨#[33, 35, 36, 37, 38, 39, 42, 43, 45, 46, 94, 95, 96, 124, 126, 48, 49, 50, 51, 52, 53, 54, 55, 56, 57]⟩ 0
          obtain ⟨B3, hB3⟩ : ∃ B, W3.heap.size = B := ⟨_, rfl⟩
          have hsB3 : w.heap.size + 1 + 1 ≤ B3 := by rw [← hB3]; exact HB0.out
          rw [hB3] at hit3
          rw [hB3]
          have HIT3 := Lib.hid hit3
          clear hit3 hB3 HB0
          go_loopg [] 25 (fun gg wr => ∃ k : Nat, k + gg = 25 ∧ wr.heap[B3]? = some (.stringIter ⟨#[33, 35, 36, 37, 38, 39, 42, 43, 45, 46, 94, 95, 96, 124, 126, 48, 49, 50, 51, 52, 53, 54, 55, 56, 57]⟩ k) ∧ KI w wr (((m3 : List UInt8).take k).foldl p3 R2))
          case atStart => exact ⟨0, by omega, HIT3.out, HKi3.out⟩
          case round =>
            obtain ⟨k, hk, hit, hki⟩ := hrel
            have HKI := Lib.hid hki
            have HIT := Lib.hid hit
            clear hki hit
            by_cases hlt : k < 25
            · obtain ⟨c, hc, hasc, hnx⟩ := next_lit (P := Tryd.prog) wr B3 ⟨#[33, 35, 36, 37, 38, 39, 42, 43, 45, 46, 94, 95, 96, 124, 126, 48, 49, 50, 51, 52, 53, 54, 55, 56, 57]⟩ m3 rfl (by decide) k HIT.out hlt
              have HK2 := HKI.out.iterAt hsB3 ⟨#[33, 35, 36, 37, 38, 39, 42, 43, 45, 46, 94, 95, 96, 124, 126, 48, 49, 50, 51, 52, 53, 54, 55, 56, 57]⟩ (k + 1)
              have hit2 := Lib.iterAt_heap wr B3 ⟨#[33, 35, 36, 37, 38, 39, 42, 43, 45, 46, 94, 95, 96, 124, 126, 48, 49, 50, 51, 52, 53, 54, 55, 56, 57]⟩ k (k + 1) HIT.out
              obtain ⟨W, hW⟩ : ∃ W, wr.iterAt B3 ⟨#[33, 35, 36, 37, 38, 39, 42, 43, 45, 46, 94, 95, 96, 124, 126, 48, 49, 50, 51, 52, 53, 54, 55, 56, 57]⟩ (k + 1) = W := ⟨_, rfl⟩
              rw [hW] at hnx HK2 hit2
              obtain ⟨v, c1, c2⟩ := HK2.at (by rw [foldl_len p3 p3_len, L2.out]) c.toNat (by omega)
              have HN : Hid (KI w (W.setCell ⟨w.heap.size + 1, c.toNat, none⟩ (.int .u8 4)) (((m3 : List UInt8).take (k + 1)).foldl p3 R2)) := by
                show KI _ _ _
                rw [foldl_take p3 R2 hc]
                exact HK2.put c.toNat 4
              have HI2 : Hid ((W.setCell ⟨w.heap.size + 1, c.toNat, none⟩ (.int .u8 4)).heap[B3]? = some (.stringIter ⟨#[33, 35, 36, 37, 38, 39, 42, 43, 45, 46, 94, 95, 96, 124, 126, 48, 49, 50, 51, 52, 53, 54, 55, 56, 57]⟩ (k + 1))) := by
                show _ = _
                rw [heap_setCell_other _ _ _ _ (show B3 ≠ w.heap.size + 1 by omega)]
                exact hit2
              have b1 : (0 : Int) ≤ (c.toNat : Int) ∧ (c.toNat : Int) < 256 := by omega
              clear hW HK2 hit2 hc hasc
              go_wp2_with fail
              go_roundg (gk - 1)
              case rel => exact ⟨k + 1, by omega, HI2.out, HN.out⟩
              case measure => omega
            · obtain rfl : k = 25 := by omega
              have hnx : ∀ ty, (Instr.next (.pointer (some ⟨B3, 0, none⟩)) true ty).run Tryd.prog wr = _ := fun ty => Lib.run_next_end_at wr B3 ⟨#[33, 35, 36, 37, 38, 39, 42, 43, 45, 46, 94, 95, 96, 124, 126, 48, 49, 50, 51, 52, 53, 54, 55, 56, 57]⟩ 25 ty HIT.out (by decide)
              have HK4 : Hid (KI w wr R3) := by show KI _ _ _; rw [← HR3.out]; exact HKI.out
              clear HKI HIT
              go_wp2_with fail
              go_loopg [7] 26 (fun gg i wr => ∃ k : Nat, k + gg = 26 ∧ i = .int .i32 ((k + 97 : Nat) : Int) ∧ KI w wr (((List.range 26).take k).foldl p4 R3))
              case atStart => exact ⟨0, by omega, rfl, HK4.out⟩
              case round =>
                obtain ⟨k, hk, rfl, hki⟩ := hrel
                have HKI := Lib.hid hki
                clear hki
                by_cases hlt : k < 26
                · have hlen : (((List.range 26).take k).foldl p4 R3).length = 256 := by rw [foldl_len p4 p4_len, L3.out]
                  obtain ⟨v, c1, c2⟩ := HKI.out.at hlen (k + 97) (by omega)
                  have HN1 : KI w (wr.setCell ⟨w.heap.size + 1, k + 97, none⟩ (.int .u8 4)) _ := HKI.out.put (k + 97) 4
                  obtain ⟨v2, d1, d2⟩ := HN1.at (by rw [List.length_set]; exact hlen) (k + 65) (by omega)
                  have HN : Hid (KI w ((wr.setCell ⟨w.heap.size + 1, k + 97, none⟩ (.int .u8 4)).setCell ⟨w.heap.size + 1, k + 65, none⟩ (.int .u8 3)) (((List.range 26).take (k + 1)).foldl p4 R3)) := by
                    show KI _ _ _
                    rw [foldl_take p4 R3 (range_at hlt)]
                    exact HN1.put (k + 65) 3
                  obtain ⟨m, hm⟩ : ∃ m, k + 97 = m := ⟨_, rfl⟩
                  obtain ⟨q, hq⟩ : ∃ q, k + 65 = q := ⟨_, rfl⟩
                  rw [hm] at c1 c2 d1 d2 HN ⊢
                  rw [hq] at d1 d2 HN
                  have b0 : (m : Int) ≤ 122 := by omega
                  have b1 : (0 : Int) ≤ (m : Int) ∧ (m : Int) < 256 := by omega
                  have b2 : (0 : Int) ≤ (q : Int) ∧ (q : Int) < 256 := by omega
                  have s1 : IntKind.i32.wrap ((m : Int) + 1) = ((m + 1 : Nat) : Int) := by rw [IntWalk.i32_in _ (by omega)]; omega
                  have s2 : IntKind.i32.wrap ((m : Int) - 32) = (q : Int) := by rw [IntWalk.i32_in _ (by omega)]; omega
                  have HM := Lib.hid hm
                  clear hm hq HN1 hlen
                  go_wp2_with fail
                  go_roundg (gk - 1)
                  case rel => exact ⟨k + 1, by omega, by rw [← HM.out, show k + 1 + 97 = k + 97 + 1 by omega]; go_num, HN.out⟩
                  case measure => omega
                · obtain rfl : k = 26 := by omega
                  have hOs : O.size = 256 := by rw [← HO.out]; simp [kd_length]
                  have hOc : O.all (·.oneCell') = true := by rw [← HO.out]; simp [encK_one]
                  have hrow : wr.heap[w.heap.size + 1]? = some (.cells O 71 (0, 0)) := by
                    rw [← HO.out, ← HK.out]
                    exact HKI.out.1
                  have hz0 := HKI.out.2.1
                  have hbw := HKI.out.2.2.1
                  have HR := Lib.hid hrow
                  have HZ0 := Lib.hid hz0
                  have HBW := Lib.hid hbw
                  have HOS := Lib.hid hOs
                  have HOC := Lib.hid hOc
                  clear hrow hz0 hbw hOs hOc HKI
                  go_wp2_with (first
                    | (refine wpList_load_row rfl _ _ rfl (w.heap.size + 1) rfl 71 O (0, 0) _ HR.out Tryd.underlying71 rfl (by rw [size256, HOS.out]) ?_)
                    | (refine wpList_store_row rfl _ _ _ rfl w.heap.size O rfl rfl 71 zero256 HZ0.out (by rw [size256, HOS.out]) (by rw [HOS.out]; rfl) HOC.out ?_)
                    | fail)
                  exact bodyPost_ret (v := .agg O) (results_cell_row rfl _ _ _ _ _ _ _ rfl (setRow_heap _ _ _ _ _ _ HZ0.out) Tryd.underlying71 rfl (by rw [size256, HOS.out])) rfl ⟨rfl, below_setRow7 HBW.out (by omega) _⟩
end Hx
end Go.Proofs.YtagngohemlkkoaaDoor
