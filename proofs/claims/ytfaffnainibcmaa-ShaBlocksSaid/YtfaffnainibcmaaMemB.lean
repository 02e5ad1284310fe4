/-
  An array of integers that came in by value: its cells.
-/
import Derived.Test.YtfaffnainibcmaaShaN
import Derived.OpenShut
import Derived.WideShapes
namespace Go.Proofs.Ytfaffnainibcmaa
open Go.RowKit Go.ChangeShapes Go.WideShapes
namespace Hx
open Go Wd

theorem mapM_get {α β : Type} (f : α → Option β) : ∀ (l : List α) (r : List β), l.mapM f = some r → r.length = l.length ∧ ∀ i (h : i < l.length) (h' : i < r.length), f (l[i]'h) = some (r[i]'h')
  | [], r, h => by
    simp at h
    subst h
    exact ⟨rfl, fun i h => absurd h (by simp)⟩
  | a :: l, r, h => by
    rw [List.mapM_cons] at h
    cases ha : f a with
    | none => simp [ha] at h
    | some b =>
      cases hl : l.mapM f with
      | none => simp [ha, hl] at h
      | some bs =>
        simp [ha, hl] at h
        subst h
        obtain ⟨h1, h2⟩ := mapM_get f l bs hl
        refine ⟨by simp [h1], fun i hi hi' => ?_⟩
        cases i with
        | zero => exact ha
        | succ i => exact h2 i (by simpa using hi) (by simpa using hi')
theorem open_arr {H : Type} {enc : TypeId × Value → H} {P : Program} {W w : World} {r : Reach} {base b0 : Nat} {spare : Nat → Bool} {held : Bool} {t e n : Nat} {k : IntKind} {v : Value} {d : DataW H} {p : List MemPlace}
    (ht : P.underlying t = some (.array n e)) (he : P.underlying e = some (.int k)) (hc : P.cellsOf e = 1) (hC : P.cellsOf t = n) (hv : Value.okWide P W r base t v) (h : DataW.Trod enc P w b0 spare held t v d p) :
    ∃ zs : List Int, v = .agg (zs.map (Value.int k)).toArray ∧ zs.length = n ∧ ∀ z ∈ zs, (Lit.int k z).wf = true := by
  have hv' : ∃ cs, v = .agg cs ∧ cs.size = P.cellsOf t := by
    unfold Value.okWide at hv
    rw [ht] at hv
    obtain ⟨cs, h1, h2, _⟩ := hv
    exact ⟨cs, h1, h2⟩
  obtain ⟨cs, rfl, hsz⟩ := hv'
  obtain ⟨fuel, hf⟩ := h
  cases fuel with
  | zero => simp [DataW.trod] at hf
  | succ fuel =>
    unfold DataW.trod at hf
    rw [ht] at hf
    have hcell : (Value.agg cs).cells.toList = cs.toList := rfl
    have hlen : cs.toList.length = P.cellsOf t := by simpa using hsz
    rw [hcell] at hf
    have key : ∃ xs, ((List.range n).mapM fun i => DataW.trod enc P w b0 spare held fuel e ((cs.toList.drop (i * P.cellsOf e)).take (P.cellsOf e))) = some xs := by
      cases hm : ((List.range n).mapM fun i => DataW.trod enc P w b0 spare held fuel e ((cs.toList.drop (i * P.cellsOf e)).take (P.cellsOf e))) with
      | none => simp [hm, hlen] at hf
      | some xs => exact ⟨xs, rfl⟩
    obtain ⟨xs, hxs⟩ := key
    obtain ⟨hl, hg⟩ := mapM_get _ _ _ hxs
    have hn : cs.toList.length = n := hlen.trans hC
    have each : ∀ i (h : i < cs.toList.length), ∃ z : Int, cs.toList[i]'h = .int k z ∧ (Lit.int k z).wf = true := by
      intro i hi
      have hi' : i < (List.range n).length := by simpa [← hn] using hi
      have := hg i hi' (by omega)
      rw [List.getElem_range, hc, Nat.mul_one] at this
      have e1 : (cs.toList.drop i).take 1 = [cs.toList[i]'hi] := by
        rw [List.drop_eq_getElem_cons hi]
        rfl
      rw [e1] at this
      obtain ⟨m, h1, _, hw⟩ := DataW.trod_int he this
      exact ⟨m, by simpa using h1, hw⟩
    have num : ∀ (l : List Value), (∀ i (h : i < l.length), ∃ z : Int, l[i]'h = .int k z ∧ (Lit.int k z).wf = true) → ∃ zs : List Int, l = zs.map (Value.int k) ∧ ∀ z ∈ zs, (Lit.int k z).wf = true := by
      intro l
      induction l with
      | nil => intro _; exact ⟨[], rfl, by simp⟩
      | cons a l ih =>
        intro h
        obtain ⟨z, hz, hw⟩ := h 0 (by simp)
        obtain ⟨zs, h1, h2⟩ := ih (fun i hi => h (i + 1) (by simpa using hi))
        refine ⟨z :: zs, by simpa [h1] using hz, fun y hy => ?_⟩
        rcases List.mem_cons.1 hy with rfl | hy
        · exact hw
        · exact h2 y hy
    obtain ⟨zs, h1, h2⟩ := num cs.toList each
    refine ⟨zs, by rw [← h1], ?_, h2⟩
    rw [← hn, h1, List.length_map]
theorem words_of : ∀ (zs : List Int), (∀ z ∈ zs, (Lit.int .u32 z).wf = true) → ∃ l : List W32, zs.map (Value.int .u32) = l.map encW ∧ l.length = zs.length
  | [], _ => ⟨[], rfl, rfl⟩
  | z :: zs, h => by
    obtain ⟨x, hx⟩ := word_of (h z (List.mem_cons_self ..))
    obtain ⟨l, h1, h2⟩ := words_of zs (fun y hy => h y (List.mem_cons_of_mem _ hy))
    exact ⟨x :: l, by simp [h1, encW, hx], by simp [h2]⟩
theorem bytes_of : ∀ (zs : List Int), (∀ z ∈ zs, (Lit.int .u8 z).wf = true) → ∃ l : List UInt8, zs.map (Value.int .u8) = l.map encB ∧ l.length = zs.length
  | [], _ => ⟨[], rfl, rfl⟩
  | z :: zs, h => by
    obtain ⟨l, h1, h2⟩ := bytes_of zs (fun y hy => h y (List.mem_cons_of_mem _ hy))
    have hb := bounds_u8 (h z (List.mem_cons_self ..))
    refine ⟨z.toNat.toUInt8 :: l, ?_, by simp [h2]⟩
    rw [List.map_cons, List.map_cons, h1, encB, Nat.toUInt8, UInt8.toNat_ofNat']
    congr 2
    omega
end Hx
end Go.Proofs.Ytfaffnainibcmaa
