/-
  Texts of one seat, put together: SrbE, SpaC, SpaD.
-/
import Derived.Test.YteobcohjikjalaaGreatDoorSp31
import Derived.Test.YteobcohjikjalaaGreatDoorSp26
import Derived.Test.YteobcohjikjalaaGreatDoorSp23
import Derived.Test.YteobcohjikjalaaGreatDoorSp16
set_option linter.unusedSimpArgs false
namespace Go.Proofs.YteobcohjikjalaaGreatDoor
open Go.RowKit
namespace Hx
open Lx Tr Tx Nmb Es Ns
set_option maxRecDepth 100000
set_option maxHeartbeats 16000000
set_option linter.unusedVariables false
set_option linter.unusedSimpArgs false
theorem rwalk_all (B : Nat) (A : Option Addr) (n c : Nat) (v : List Nd) (hn : v.length = n) (hl : n ≤ 512) (hsm : ∀ n ∈ v, SmallN n) : ∀ d, d ≤ 12 → RWalk B A n c v d := by
  intro d
  induction d with
  | zero =>
    intro _ p r path A2 c2 w hp hr hrd hB hpr hpl hps hpn
    have hk : (v[p]'hp).kind = 2 := by
      have h' := hr
      rw [List.drop_eq_getElem_cons hp, restD] at h'
      by_cases hn : ndOk (v[p]'hp) = true ∧ (v[p]'hp).kind = 2
      · exact hn.2
      · rw [if_neg hn] at h'; cases h'
    exact rwalk_text B A n c v hn hl 0 p path A2 c2 w hp hrd hB hk
  | succ d ih =>
    intro hd p r path A2 c2 w hp hr hrd hB hpr hpl hps hpn
    have hok : ndOk (v[p]'hp) = true := by
      have h' := hr
      rw [List.drop_eq_getElem_cons hp] at h'
      exact (restD_ok h').1
    by_cases hk : (v[p]'hp).kind = 1
    · exact rwalk_elem B A n c v hn hl hsm d p r path A2 c2 w hp hr hrd hB hpr hpl hps hpn hk (ih (by omega))
    · exact rwalk_text B A n c v hn hl (d + 1) p path A2 c2 w hp hrd hB ((ndOk_kind hok).resolve_left hk)
def OtNo (l : List Nd) (z : Int) (w : World) (e : Ending) (w' : World) : Prop := ∃ A c, e = .returned (.tuple #[.slice A l.length c, .int .i64 z]) ∧ (A = none → c = 0) ∧ RdB NdS w' A l ∧ Below w.heap.size w w'

theorem rres_no (A : Option Addr) (n c : Nat) (v : List Nd) (w : World) (hr : RdB NdS w A v) (hn : v.length = n) (hmax : n ≤ 9223372036854775807) (hsm : n ≤ 512 → ∀ m ∈ v, SmallN m) (hm : mayV v = false) :
    Calls Tryz.prog 7 #[.slice A n c] w (OtNo (resolveR v).1 (resolveR v).2 w) := by
  have HM := Lib.hid fun W (hW : Below w.heap.size w W) => rmay10 A n c v W (hr.on hW) hn hmax hsm false hm
  have hq : resolveR v = ([], 8) := by unfold resolveR; rw [if_neg (by rw [hm]; simp)]
  rw [hq]
  clear hr hn hmax hsm hm hq
  go_enter Tryz.func7, Tryz.ntmps7
  go_wp2_with (first
    | (go_at_call 22; (with_reducible refine (HM.out _ (Below.refl _ _)).mono ?_); rintro e1 w1 ⟨rfl, hb1⟩; have HB1 := Lib.hid hb1; clear hb1)
    | fail)
  go_ret2
  exact ⟨none, 0, rfl, fun _ => rfl, RdS.nil _ _ _, HB1.out⟩

theorem rres_spaced (A : Option Addr) (n c : Nat) (v : List Nd) (w : World) (hr : RdB NdS w A v) (hn : v.length = n) (hmax : n ≤ 9223372036854775807) (hsm : n ≤ 512 → ∀ m ∈ v, SmallN m) (hm : mayV v = true) (hraw : rawV v = false) :
    Calls Tryz.prog 7 #[.slice A n c] w (OtNo (resolveR v).1 (resolveR v).2 w) := by
  have HM := Lib.hid fun W (hW : Below w.heap.size w W) => rmay10 A n c v W (hr.on hW) hn hmax hsm true hm
  have h5 : n ≤ 512 := by rw [← hn]; exact (mayV_iff.1 hm).1
  have HS := Lib.hid fun W (hW : Below w.heap.size w W) => rspaced11 A n c v W (hr.on hW) hn (by omega) (hsm h5) false hraw
  have hq : resolveR v = ([], 8) := by unfold resolveR; rw [if_neg (by rw [hraw]; simp)]
  rw [hq]
  clear hr hn hmax hsm hm hq hraw
  go_enter Tryz.func7, Tryz.ntmps7
  go_wp2_with (first
    | (go_at_call 22; (with_reducible refine (HM.out _ (Below.refl _ _)).mono ?_); rintro e1 w1 ⟨rfl, hb1⟩; have HB1 := Lib.hid hb1; clear hb1)
    | (go_at_call 23; (with_reducible refine (HS.out _ HB1.out).mono ?_); rintro e2 w2 ⟨rfl, hb2⟩; have HB2 := Lib.hid (stp HB1.out hb2); clear hb2)
    | fail)
  go_ret2
  exact ⟨none, 0, rfl, fun _ => rfl, RdS.nil _ _ _, HB2.out⟩

theorem rres_bad (A : Option Addr) (n c : Nat) (v : List Nd) (w : World) (hr : RdB NdS w A v) (hn : v.length = n) (hmax : n ≤ 9223372036854775807) (hsm : n ≤ 512 → ∀ m ∈ v, SmallN m) (hm : mayV v = true) (hraw : rawV v = true) (hwq : (resW v).1.2 = false) :
    Calls Tryz.prog 7 #[.slice A n c] w (OtNo (resolveR v).1 (resolveR v).2 w) := by
  have HM := Lib.hid fun W (hW : Below w.heap.size w W) => rmay10 A n c v W (hr.on hW) hn hmax hsm true hm
  have h5 : n ≤ 512 := by rw [← hn]; exact (mayV_iff.1 hm).1
  have HS := Lib.hid fun W (hW : Below w.heap.size w W) => rspaced11 A n c v W (hr.on hW) hn (by omega) (hsm h5) true hraw
  have hrest := (mayV_iff.1 hm).2.2
  have hp0 : 0 < v.length := by
    obtain ⟨_, ⟨m, l, rfl, _⟩, _⟩ := mayV_iff.1 hm
    simp
  have HW : Hid (∀ W, Below w.heap.size w W → Calls Tryz.prog 24 #[.slice A n c, .int .i64 0, .slice none 0 0] W (OtTo w.heap.size (resW v).1.1 (resW v).1.2 W)) := Lib.hid fun W hW => rwalk_all w.heap.size A n c v hn h5 (hsm h5) 12 (Nat.le_refl _) 0 [] [] none 0 W hp0 hrest (hr.keep (fun _ h => h) fun b o hb => hW.cell (p := ⟨b, o, none⟩) hb) hW.size (RdS.nil _ _ _) (by simp) (fun x hx => by cases hx) (fun _ => rfl)
  obtain ⟨WW, hWW⟩ : ∃ WW, resW v = WW := ⟨_, rfl⟩
  rw [hWW] at HW
  rw [hWW] at hwq
  have hq : resolveR v = ([], 110) := by unfold resolveR; rw [if_pos ⟨hm, hraw⟩, hWW, if_neg (by rw [hwq]; simp)]
  rw [hq]
  clear hr hn hmax hsm hm hq hraw hrest hp0 hWW
  go_enter Tryz.func7, Tryz.ntmps7
  go_wp2_with (first
    | (go_at_call 22; (with_reducible refine (HM.out _ (Below.refl _ _)).mono ?_); rintro e1 w1 ⟨rfl, hb1⟩; have HB1 := Lib.hid hb1; clear hb1)
    | (go_at_call 23; (with_reducible refine (HS.out _ HB1.out).mono ?_); rintro e2 w2 ⟨rfl, hb2⟩; have HB2 := Lib.hid (stp HB1.out hb2); clear hb2)
    | (go_at_call 24; (with_reducible refine (HW.out _ HB2.out).mono ?_); rintro e3 w3 ⟨A3, c3, rfl, hr3, hb3⟩; have HR3 := Lib.hid hr3; have HB3 := Lib.hid (stp HB2.out hb3); clear hr3 hb3; rw [hwq])
    | fail)
  go_ret2
  exact ⟨none, 0, rfl, fun _ => rfl, RdS.nil _ _ _, HB3.out⟩

theorem rres_yes (A : Option Addr) (n c : Nat) (v : List Nd) (w : World) (hr : RdB NdS w A v) (hn : v.length = n) (hmax : n ≤ 9223372036854775807) (hsm : n ≤ 512 → ∀ m ∈ v, SmallN m) (hm : mayV v = true) (hraw : rawV v = true) (hwq : (resW v).1.2 = true) :
    Calls Tryz.prog 7 #[.slice A n c] w (OtNo (resolveR v).1 (resolveR v).2 w) := by
  have HM := Lib.hid fun W (hW : Below w.heap.size w W) => rmay10 A n c v W (hr.on hW) hn hmax hsm true hm
  have h5 : n ≤ 512 := by rw [← hn]; exact (mayV_iff.1 hm).1
  have HS := Lib.hid fun W (hW : Below w.heap.size w W) => rspaced11 A n c v W (hr.on hW) hn (by omega) (hsm h5) true hraw
  have hrest := (mayV_iff.1 hm).2.2
  have hp0 : 0 < v.length := by
    obtain ⟨_, ⟨m, l, rfl, _⟩, _⟩ := mayV_iff.1 hm
    simp
  have HW : Hid (∀ W, Below w.heap.size w W → Calls Tryz.prog 24 #[.slice A n c, .int .i64 0, .slice none 0 0] W (OtTo w.heap.size (resW v).1.1 (resW v).1.2 W)) := Lib.hid fun W hW => rwalk_all w.heap.size A n c v hn h5 (hsm h5) 12 (Nat.le_refl _) 0 [] [] none 0 W hp0 hrest (hr.keep (fun _ h => h) fun b o hb => hW.cell (p := ⟨b, o, none⟩) hb) hW.size (RdS.nil _ _ _) (by simp) (fun x hx => by cases hx) (fun _ => rfl)
  obtain ⟨WW, hWW⟩ : ∃ WW, resW v = WW := ⟨_, rfl⟩
  rw [hWW] at HW
  rw [hWW] at hwq
  have hq : resolveR v = (WW.1.1, 0) := by unfold resolveR; rw [if_pos ⟨hm, hraw⟩, hWW, if_pos hwq]
  rw [hq]
  clear hr hn hmax hsm hm hq hraw hrest hp0 hWW
  go_enter Tryz.func7, Tryz.ntmps7
  go_wp2_with (first
    | (go_at_call 22; (with_reducible refine (HM.out _ (Below.refl _ _)).mono ?_); rintro e1 w1 ⟨rfl, hb1⟩; have HB1 := Lib.hid hb1; clear hb1)
    | (go_at_call 23; (with_reducible refine (HS.out _ HB1.out).mono ?_); rintro e2 w2 ⟨rfl, hb2⟩; have HB2 := Lib.hid (stp HB1.out hb2); clear hb2)
    | (go_at_call 24; (with_reducible refine (HW.out _ HB2.out).mono ?_); rintro e3 w3 ⟨A3, c3, rfl, hr3, hb3⟩; have HR3 := Lib.hid hr3; have HB3 := Lib.hid (stp HB2.out hb3); clear hr3 hb3; rw [hwq])
    | fail)
  go_ret2
  exact ⟨A3, c3, rfl, HR3.out.nil, HR3.out.all, HB3.out⟩

theorem rresolve11 (A : Option Addr) (n c : Nat) (v : List Nd) (w : World) (hr : RdB NdS w A v) (hn : v.length = n) (hmax : n ≤ 9223372036854775807) (hsm : n ≤ 512 → ∀ m ∈ v, SmallN m) :
    Calls Tryz.prog 7 #[.slice A n c] w (OtNo (resolveR v).1 (resolveR v).2 w) := by
  cases hm : mayV v with
  | false => exact rres_no A n c v w hr hn hmax hsm hm
  | true =>
    cases hraw : rawV v with
    | false => exact rres_spaced A n c v w hr hn hmax hsm hm hraw
    | true =>
      cases hwq : (resW v).1.2 with
      | false => exact rres_bad A n c v w hr hn hmax hsm hm hraw hwq
      | true => exact rres_yes A n c v w hr hn hmax hsm hm hraw hwq

end Hx
end Go.Proofs.YteobcohjikjalaaGreatDoor
set_option linter.unusedSimpArgs false
namespace Go.Proofs.YteobcohjikjalaaGreatDoor
open Go.RowKit
namespace Hx
open Lx Tr Tx Nmb Es Ns
set_option maxRecDepth 100000
set_option maxHeartbeats 16000000
set_option linter.unusedVariables false
theorem wpList_upd {P : Program} {w : World} {ops : Array Oper} {rest : List Oper} {o : Oper} {a : Act} {Q : Exit → Act → World → Prop}
    (hg : o.guard = none) (m x v : Operand) (t : TypeId) (hop : o.op = Op.mapUpdate t m x v) {w' : World} {mv kv vv : Value} (hm : a.eval m = mv) (hx : a.eval x = kv) (hv : a.eval v = vv)
    (hrun : (Instr.mapUpdate t mv kv vv).run P w = .ok () w') (hK : wpList P ops Q rest (a.put o.dst undef) w') : wpList P ops Q (o :: rest) a w := by
  refine wpList_plain hg fun K' hK' => ?_
  unfold Oper.wp
  simp [execOp, hop, hm, hx, hv, hrun, Result.andThen]
  exact hK' _ _ hK
def insA (D : List (List UInt8 × AB)) (l : List At) : List (List UInt8 × AB) := l.foldl (fun D a => match decl a.name with
  | some p => insD D p (abOf a)
  | none => D) D
theorem insA_snoc (D : List (List UInt8 × AB)) (l : List At) (a : At) : insA D (l ++ [a]) = match decl a.name with
  | some p => insD (insA D l) p (abOf a)
  | none => insA D l := by
  unfold insA
  rw [List.foldl_append]
  rfl
theorem abOf_mk {a : At} {x y z : ByteArray} (h1 : x.data.toList = a.space) (h2 : y.data.toList = a.name) (h3 : z.data.toList = a.value) : abOf a = ⟨x, y, z⟩ := by
  unfold abOf
  rw [← h1, ← h2, ← h3, ← ba_eq5 x, ← ba_eq5 y, ← ba_eq5 z]
theorem decl_name {nm p : List UInt8} (h : decl nm = some p) : nm = (if cutC nm = none then xmlns5 else xmlns5 ++ 58 :: p) ∧ (cutC nm = none → p = []) := by
  unfold decl at h
  cases hc : cutC nm with
  | none =>
    rw [hc] at h
    dsimp only at h
    by_cases hn : nm = xmlns5
    · rw [if_pos hn] at h
      exact ⟨by rw [if_pos rfl]; exact hn, fun _ => (Option.some.inj h).symm⟩
    · rw [if_neg hn] at h; cases h
  | some x =>
    obtain ⟨a, b⟩ := x
    rw [hc] at h
    dsimp only at h
    by_cases ha : a = xmlns5
    · rw [if_pos ha] at h
      obtain ⟨e, _⟩ := cutC_some hc
      exact ⟨by rw [if_neg (by simp), e, ha, Option.some.inj h], fun h => by cases h⟩
    · rw [if_neg ha] at h; cases h
theorem decl_inj {n1 n2 p : List UInt8} (f1 : fullL n1 = true) (f2 : fullL n2 = true) (h1 : decl n1 = some p) (h2 : decl n2 = some p) : n1 = n2 := by
  obtain ⟨e1, k1⟩ := decl_name h1
  obtain ⟨e2, k2⟩ := decl_name h2
  have ne : ∀ n : List UInt8, fullL n = true → decl n = some p → cutC n ≠ none → p ≠ [] := fun n hf hd hc hp => by
    cases hx : cutC n with
    | none => exact hc hx
    | some x =>
      obtain ⟨a, b⟩ := x
      have := (fullL_cut hf hx).2
      unfold decl at hd
      rw [hx] at hd
      dsimp only at hd
      split at hd
      · rw [Option.some.inj hd, hp] at this
        cases this
      · cases hd
  by_cases c1 : cutC n1 = none <;> by_cases c2 : cutC n2 = none
  · rw [e1, e2, if_pos c1, if_pos c2]
  · exact absurd (k1 c1) (ne n2 f2 h2 c2)
  · exact absurd (k2 c2) (ne n1 f1 h1 c1)
  · rw [e1, e2, if_neg c1, if_neg c2]
theorem insA_look (D : List (List UInt8 × AB)) : ∀ (l : List At), (∀ a ∈ l, fullL a.name = true) → (l.map (·.name)).Nodup → ∀ p, (lookD (insA D l) p).map (·.z.data.toList) = match declL l p with
    | some v => some v
    | none => (lookD D p).map (·.z.data.toList) := by
  suffices h : ∀ r : List At, (∀ a ∈ r.reverse, fullL a.name = true) → (r.reverse.map (·.name)).Nodup → ∀ p, (lookD (insA D r.reverse) p).map (·.z.data.toList) = match declL r.reverse p with
    | some v => some v
    | none => (lookD D p).map (·.z.data.toList) by
    intro l hf hn p
    have := h l.reverse (by rw [List.reverse_reverse]; exact hf) (by rw [List.reverse_reverse]; exact hn) p
    rw [List.reverse_reverse] at this
    exact this
  intro r
  induction r with
  | nil => intro _ _ p; rfl
  | cons a r ih =>
    rw [List.reverse_cons]
    generalize r.reverse = l at ih
    intro hf hn p
    rw [List.map_append, List.nodup_append] at hn
    have hi := ih (fun b hb => hf b (List.mem_append.2 (.inl hb))) hn.1 p
    have hfa := hf a (List.mem_append.2 (.inr (List.mem_singleton.2 rfl)))
    rw [insA_snoc, declL_app]
    cases hd : decl a.name with
    | none =>
      dsimp only
      rw [hi]
      cases declL l p with
      | some v => rfl
      | none =>
        dsimp only
        rw [declL, if_neg (by rw [hd]; simp)]
        rfl
    | some k =>
      dsimp only
      rw [lookD_ins]
      by_cases hk : k = p
      · subst hk
        rw [if_pos rfl]
        have hno : declL l k = none := declL_no fun b hb e => by
          have := decl_inj (hf b (List.mem_append.2 (.inl hb))) hfa e hd
          exact hn.2.2 b.name (List.mem_map.2 ⟨b, hb, rfl⟩) a.name (by simp) this
        rw [hno]
        dsimp only
        rw [declL, if_pos hd]
        simp [abOf]
      · rw [if_neg hk, hi]
        cases declL l p with
        | some v => rfl
        | none =>
          dsimp only
          rw [declL, if_neg (by rw [hd]; simpa using hk)]
          rfl
theorem EnvD.ins {D : List (List UInt8 × AB)} {E : List (List At)} {l : List At} (h : EnvD D E) (hf : ∀ a ∈ l, fullL a.name = true) (hn : (l.map (·.name)).Nodup) : EnvD (insA D l) (l :: E) := fun p => by
  have h1 := insA_look D l hf hn p
  rw [lookE]
  cases hd : declL l p with
  | some v =>
    rw [hd] at h1
    dsimp only at h1 ⊢
    cases hl : lookD (insA D l) p with
    | none => rw [hl] at h1; cases h1
    | some a =>
      rw [hl] at h1
      rw [← Option.some.inj h1]
  | none =>
    rw [hd] at h1
    dsimp only at h1 ⊢
    rw [h p]
    cases hl : lookD (insA D l) p with
    | none =>
      rw [hl] at h1
      cases hl2 : lookD D p with
      | none => rfl
      | some a => rw [hl2] at h1; cases h1
    | some a =>
      rw [hl] at h1
      cases hl2 : lookD D p with
      | none => rw [hl2] at h1; cases h1
      | some a2 =>
        rw [hl2] at h1
        have e : a.z.data.toList = a2.z.data.toList := Option.some.inj h1
        dsimp only
        rw [e]
def declsOk (l : List At) : Bool := l.all fun a => match decl a.name with
  | some p => rightD p a.value
  | none => true

theorem declare11 (b : Nat) (D : List (List UInt8 × AB)) (A : Option Addr) (n c : Nat) (l : List At) (w : World) (h : MapD w b D) (hr : RdS AtS w (fun k => k < b) A l) (hn : l.length = n) (hm : n ≤ 1000000) (hsz : ∀ a ∈ l, a.name.length ≤ 1000000) (q : Bool) (hq : declsOk l = q) :
    Calls Tryz.prog 19 #[.map (some b), .slice A n c] w fun e w' => e = .returned (.bool q) ∧ Below b w w' ∧ w.heap.size ≤ w'.heap.size ∧ (q = true → MapD w' b (insA D l)) := by
  have HD := Lib.hid h
  have HR := Lib.hid hr
  have HN := Lib.hid hn
  have HSZ := Lib.hid hsz
  have HQ := Lib.hid hq
  have HBL : Hid (b < w.heap.size) := Lib.hid (by obtain ⟨es, cl, hb, _⟩ := h; exact (Array.getElem?_eq_some_iff.1 hb).1)
  have bn : (n : Int) ≤ 1000000 := by omega
  clear h hr hn hsz hq
  go_enter Tryz.func19, Tryz.ntmps19
  go_wp2_with fail
  go_loopg [12] n (fun gg i wr => ∃ j : Nat, j + gg = n ∧ i = .int .i64 j ∧ declsOk (l.take j) = true ∧ MapD wr b (insA D (l.take j)) ∧ Below b w wr)
  case atStart => exact ⟨0, by omega, rfl, rfl, HD.out, Below.refl _ _⟩
  case round =>
    obtain ⟨j, hjg, rfl, hok, hmd, hbw⟩ := hrel
    have HBW := Lib.hid hbw
    have HMD := Lib.hid hmd
    have HOK := Lib.hid hok
    have HBR : Hid (b < wr.heap.size) := Lib.hid (Nat.lt_of_lt_of_le HBL.out hbw.size)
    by_cases hlt : j < n
    · have hjl : j < l.length := by rw [HN.out]; exact hlt
      obtain ⟨b0, off, x, y, z, hA, hbB, hx, hy, hz, c0, c1, c2⟩ := at_at HR.out hjl
      have hnm := HSZ.out _ (List.getElem_mem hjl)
      obtain ⟨a, ha⟩ : ∃ a, l[j]'hjl = a := ⟨_, rfl⟩
      rw [ha] at hx hy hz hnm
      have q0 := (hbw.cell (p := ⟨b0, _, none⟩) hbB).trans c0
      have q1 := (hbw.cell (p := ⟨b0, _, none⟩) hbB).trans c1
      have q2 := (hbw.cell (p := ⟨b0, _, none⟩) hbB).trans c2
      have htk : l.take (j + 1) = l.take j ++ [a] := by rw [List.take_succ_eq_append_getElem hjl, ha]
      have hab := abOf_mk hx hy hz
      have bj : (0 : Int) ≤ (j : Int) ∧ (j : Int) < (n : Int) := by omega
      obtain ⟨W1, hW1⟩ : ∃ W1, wr.alloc (.cells #[.string x, .string y, .string z] 41) = W1 := ⟨_, rfl⟩
      have HB1 : Hid (Below wr.heap.size wr W1) := Lib.hid (by rw [← hW1]; exact stpA (Below.refl _ _) _)
      have HX1 : Hid (W1.heap[wr.heap.size]? = some (.cells #[.string x, .string y, .string z] 41 (0, 0))) := Lib.hid (by rw [← hW1]; exact heap_alloc_new wr _)
      obtain ⟨dq, hdq⟩ : ∃ dq, (decl a.name).isSome = dq := ⟨_, rfl⟩
      have HDC : Hid (Calls Tryz.prog 38 #[.agg #[.string x, .string y, .string z]] W1 fun e w' => e = .returned (.bool dq) ∧ Below W1.heap.size W1 w') := Lib.hid (declares11 ⟨x, y, z⟩ W1 dq (by show (decl y.data.toList).isSome = dq; rw [hy]; exact hdq))
      subst hA
      cases dq with
      | false =>
        have hdn : decl a.name = none := by cases hd : decl a.name with
          | none => rfl
          | some p => rw [hd] at hdq; cases hdq
        have HOK2 : Hid (declsOk (l.take (j + 1)) = true) := Lib.hid (by rw [htk]; unfold declsOk at hok ⊢; rw [List.all_append, hok]; simp [hdn])
        have HMD2 : Hid (∀ w', Below wr.heap.size wr w' → MapD w' b (insA D (l.take (j + 1)))) := Lib.hid fun w' hw => by
          rw [htk, insA_snoc, hdn]
          exact hmd.kept (hw.block b HBR.out)
        clear hok hmd hbw hx hy hz c0 c1 c2 htk hab ha hnm hdq hdn hjl hbB
        go_wp2_with (first
          | (refine wpList_store_row rfl _ _ _ rfl wr.heap.size #[.string x, .string y, .string z] rfl rfl 41 #[.string ⟨#[]⟩, .string ⟨#[]⟩, .string ⟨#[]⟩] (heap_alloc_new _ _) sizeAt rfl (by simp [Value.oneCell']) ?_; rw [World.setRow_alloc_new, hW1])
          | (refine wpList_load_row rfl _ _ rfl wr.heap.size rfl 41 #[.string x, .string y, .string z] (0, 0) _ HX1.out Tryz.underlying41 rfl sizeAt ?_)
          | (go_at_call 38; (with_reducible refine (HDC.out).mono ?_); rintro e2 w2 ⟨rfl, hb2⟩; have HB2 := Lib.hid (stp HB1.out hb2); clear hb2)
          | fail)
        go_roundg (gk - 1)
        case measure => omega
        case rel => exact ⟨j + 1, by omega, by go_num, HOK2.out, HMD2.out _ HB2.out, HBW.out.trans (HB2.out.mono (Nat.le_of_lt HBR.out))⟩
      | true =>
        obtain ⟨p, hdp⟩ : ∃ p, decl a.name = some p := Option.isSome_iff_exists.1 hdq
        have hys : y.size ≤ 1000000 := by rw [sz_le hy]; exact hnm
        obtain ⟨u, r, cq, hC, hcq, hct, hcn⟩ := cut11 y hys
        have HC := Lib.hid hC
        have hrp : r.data.toList = p := by
          cases hc : cutC a.name with
          | none =>
            rw [← hy] at hc
            have : cq = false := by rw [hcq, hc]; rfl
            rw [hcn this, (decl_name hdp).2 (by rw [← hy]; exact hc)]
          | some x2 =>
            obtain ⟨x2, y2⟩ := x2
            have h9 := hdp
            unfold decl at h9
            rw [hc] at h9
            dsimp only at h9
            have hcq2 : cq = true := by rw [hcq, hy, hc]; rfl
            have h8 := (hct hcq2).1
            rw [hy, hc] at h8
            injection h8 with h8
            injection h8 with _ h8
            split at h9
            · rw [← h8]; exact Option.some.inj h9
            · cases h9
        obtain ⟨mq, hmq⟩ : ∃ mq, rightD p a.value = mq := ⟨_, rfl⟩
        have HMY : Hid (∀ W : World, Calls Tryz.prog 40 #[.string r, .string z] W fun e w' => e = .returned (.bool mq) ∧ Below W.heap.size W w') := Lib.hid fun W => maydecl11 r z W mq (by rw [hrp, hz]; exact hmq)
        cases mq with
        | false =>
          obtain rfl : q = false := by
            rw [← HQ.out]
            unfold declsOk
            rw [List.all_eq_false]
            exact ⟨a, by rw [← ha]; exact List.getElem_mem hjl, by rw [hdp]; simp [hmq]⟩
          clear hok hmd hbw hx hy hz c0 c1 c2 htk hab ha hnm hdq hjl hbB hC hcq hct hcn hrp hmq hdp hys
          go_wp2_with (first
            | (refine wpList_store_row rfl _ _ _ rfl wr.heap.size #[.string x, .string y, .string z] rfl rfl 41 #[.string ⟨#[]⟩, .string ⟨#[]⟩, .string ⟨#[]⟩] (heap_alloc_new _ _) sizeAt rfl (by simp [Value.oneCell']) ?_; rw [World.setRow_alloc_new, hW1])
            | (refine wpList_load_row rfl _ _ rfl wr.heap.size rfl 41 #[.string x, .string y, .string z] (0, 0) _ HX1.out Tryz.underlying41 rfl sizeAt ?_)
            | (go_at_call 38; (with_reducible refine (HDC.out).mono ?_); rintro e2 w2 ⟨rfl, hb2⟩; have HB2 := Lib.hid (stp HB1.out hb2); have HX2 := Lib.hid (kept_heap HX1.out hb2); have k1 := cellV w2 _ 1 _ _ _ HX2.out; clear hb2)
            | (go_at_call 39; (with_reducible refine (HC.out w2).mono ?_); rintro e3 w3 ⟨rfl, hb3⟩; have HB3 := Lib.hid (stp HB2.out hb3); have HX3 := Lib.hid (kept_heap HX2.out hb3); have k2 := cellV w3 _ 2 _ _ _ HX3.out; clear hb3)
            | (go_at_call 40; (with_reducible refine (HMY.out w3).mono ?_); rintro e4 w4 ⟨rfl, hb4⟩; have HB4 := Lib.hid (stp HB3.out hb4); clear hb4)
            | fail)
          go_ret
          exact ⟨rfl, HBW.out.trans (HB4.out.mono (Nat.le_of_lt HBR.out)), Nat.le_trans HBW.out.size HB4.out.size, by first | trivial | (intro h; cases h)⟩
        | true =>
          have HOK2 : Hid (declsOk (l.take (j + 1)) = true) := Lib.hid (by rw [htk]; unfold declsOk at hok ⊢; rw [List.all_append, hok]; simp [hdp, hmq])
          have HUP : Hid (∀ W, Below wr.heap.size wr W → ∃ w', (Instr.mapUpdate 46 (.map (some b)) (.string r) (.agg #[.string x, .string y, .string z])).run Tryz.prog W = .ok () w' ∧ MapD w' b (insA D (l.take (j + 1))) ∧ Below b W w') := Lib.hid fun W hW => by
            obtain ⟨w', k1, k2, _, _, k5⟩ := run_updD (hmd.kept (hW.block b HBR.out)) r p hrp ⟨x, y, z⟩
            refine ⟨w', k1, ?_, k5 b (Nat.le_refl _)⟩
            rw [htk, insA_snoc, hdp]
            dsimp only
            rw [hab]
            exact k2
          clear hok hmd hbw hx hy hz c0 c1 c2 htk hab ha hnm hdq hjl hbB hC hcq hct hcn hrp hmq hdp hys
          go_wp2_with (first
            | (refine wpList_store_row rfl _ _ _ rfl wr.heap.size #[.string x, .string y, .string z] rfl rfl 41 #[.string ⟨#[]⟩, .string ⟨#[]⟩, .string ⟨#[]⟩] (heap_alloc_new _ _) sizeAt rfl (by simp [Value.oneCell']) ?_; rw [World.setRow_alloc_new, hW1])
            | (refine wpList_load_row rfl _ _ rfl wr.heap.size rfl 41 #[.string x, .string y, .string z] (0, 0) _ HX1.out Tryz.underlying41 rfl sizeAt ?_)
            | (go_at_call 38; (with_reducible refine (HDC.out).mono ?_); rintro e2 w2 ⟨rfl, hb2⟩; have HB2 := Lib.hid (stp HB1.out hb2); have HX2 := Lib.hid (kept_heap HX1.out hb2); have k1 := cellV w2 _ 1 _ _ _ HX2.out; clear hb2)
            | (go_at_call 39; (with_reducible refine (HC.out w2).mono ?_); rintro e3 w3 ⟨rfl, hb3⟩; have HB3 := Lib.hid (stp HB2.out hb3); have HX3 := Lib.hid (kept_heap HX2.out hb3); have k2 := cellV w3 _ 2 _ _ _ HX3.out; clear hb3)
            | (go_at_call 40; (with_reducible refine (HMY.out w3).mono ?_); rintro e4 w4 ⟨rfl, hb4⟩; have HB4 := Lib.hid (stp HB3.out hb4); have HX4 := Lib.hid (kept_heap HX3.out hb4); obtain ⟨w5, hup, hmd5, hb5⟩ := HUP.out w4 HB4.out; have HUP5 := Lib.hid hup; have HMD5 := Lib.hid hmd5; have HB5 := Lib.hid ((HBW.out.trans (HB4.out.mono (Nat.le_of_lt HBR.out))).trans hb5); clear hb4 hup hmd5 hb5)
            | (refine wpList_load_row rfl _ _ rfl wr.heap.size rfl 41 #[.string x, .string y, .string z] (0, 0) _ HX4.out Tryz.underlying41 rfl sizeAt ?_)
            | (refine wpList_upd rfl (.tmp 31) (.tmp 32) (.tmp 33) 46 rfl rfl rfl rfl HUP5.out ?_)
            | fail)
          go_roundg (gk - 1)
          case measure => omega
          case rel => exact ⟨j + 1, by omega, by go_num, HOK2.out, HMD5.out, HB5.out⟩
    · obtain rfl : j = n := by omega
      have hjj : ¬ ((j : Int) < (j : Int)) := by omega
      rw [← HN.out, List.take_length] at hok hmd
      obtain rfl : q = true := by rw [← HQ.out]; exact hok
      have HF := Lib.hid hmd
      clear hok hmd hbw
      go_wp2_with fail
      go_ret
      exact ⟨rfl, HBW.out, HBW.out.size, by first | exact HF.out | exact fun _ => HF.out⟩
theorem eq_two (a b : ByteArray) (q : Bool) (h : decide (a.data.toList = b.data.toList) = q) : (a.toList == b.toList) = q := by
  rw [ByteArray.toList_eq, ByteArray.toList_eq, ← h]
  by_cases e : a.data.toList = b.data.toList
  · rw [e]; simp
  · rw [decide_eq_false e]; exact beq_eq_false_iff_ne.2 e
def keyIs (x y : ByteArray) (a : At) : Bool := decide (x.data.toList = a.space) && decide (y.data.toList = a.name)
theorem has1 (g : Nat) (x y z x2 y2 z2 : ByteArray) (w : World) (hg : w.heap[g]? = some (.cells #[.string x, .string y, .string z] 41 (0, 0))) (q : Bool) (hq : (decide (x.data.toList = x2.data.toList) && decide (y.data.toList = y2.data.toList)) = q) :
    Calls Tryz.prog 62 #[.agg #[.string x2, .string y2, .string z2], .pointer (some ⟨g, 0, none⟩)] w fun e w' => e = .returned (.bool q) ∧ Below w.heap.size w w' := by
  obtain ⟨q1, h1⟩ : ∃ q1, decide (x.data.toList = x2.data.toList) = q1 := ⟨_, rfl⟩
  obtain ⟨q2, h2⟩ : ∃ q2, decide (y.data.toList = y2.data.toList) = q2 := ⟨_, rfl⟩
  rw [h1, h2] at hq
  have f1 := eq_two x x2 q1 h1
  have f2 := eq_two y y2 q2 h2
  obtain ⟨W1, hW1⟩ : ∃ W1, w.alloc (.cells #[.string x2, .string y2, .string z2] 41) = W1 := ⟨_, rfl⟩
  have HB1 : Hid (Below w.heap.size w W1) := Lib.hid (by rw [← hW1]; exact stpA (Below.refl _ _) _)
  have hX := kept_heap hg HB1.out
  have hN : W1.heap[w.heap.size]? = some (.cells #[.string x2, .string y2, .string z2] 41 (0, 0)) := by rw [← hW1]; exact heap_alloc_new w _
  have k0 := cellV W1 _ 0 _ _ _ hX
  have k1 := cellV W1 _ 1 _ _ _ hX
  have n0 := cellV W1 _ 0 _ _ _ hN
  have n1 := cellV W1 _ 1 _ _ _ hN
  clear h1 h2 hX hN hg
  cases q1 with
  | false =>
    obtain rfl : q = false := hq.symm
    go_enter Tryz.func62, Tryz.ntmps62
    go_wp2_with fail
    go_ret
    exact ⟨rfl, HB1.out⟩
  | true =>
    obtain rfl : q2 = q := hq
    go_enter Tryz.func62, Tryz.ntmps62
    go_wp2_with fail
    go_ret
    exact ⟨rfl, HB1.out⟩
theorem ixHas (g : Nat) (x y z : ByteArray) (w : World) (A : Option Addr) (n c : Nat) (l : List At) (hg : w.heap[g]? = some (.cells #[.string x, .string y, .string z] 41 (0, 0))) (hr : RdB AtS w A l) (hn : l.length = n) (hm : n ≤ 1000000) (q : Bool) (hq : l.any (keyIs x y) = q) :
    Calls Tryz.prog 58 #[.slice A n c, .func (.func 62) #[] #[.pointer (some ⟨g, 0, none⟩)]] w fun e w' => Below w.heap.size w w' ∧ ∃ r : Int, e = .returned (.int .i64 r) ∧ decide (0 ≤ r) = q := by
  have HR := Lib.hid hr
  have HN := Lib.hid hn
  have HQ := Lib.hid hq
  have HG := Lib.hid hg
  have bn : (n : Int) ≤ 1000000 := by omega
  clear hr hn hq
  go_enter Tryz.func58, Tryz.ntmps58
  go_wp2_with fail
  go_loopg [8] n (fun gg i wr => ∃ j : Nat, j + gg = n ∧ i = .int .i64 j ∧ (l.take j).any (keyIs x y) = false ∧ Below w.heap.size w wr)
  case atStart => exact ⟨0, by omega, rfl, rfl, Below.refl _ _⟩
  case round =>
    obtain ⟨j, hjg, rfl, hany, hbw⟩ := hrel
    have HBW := Lib.hid hbw
    by_cases hlt : j < n
    · have hjl : j < l.length := by rw [HN.out]; exact hlt
      obtain ⟨b0, off, x2, y2, z2, hA, hbB, hx, hy, hz, c0, c1, c2⟩ := at_at HR.out hjl
      obtain ⟨a, ha⟩ : ∃ a, l[j]'hjl = a := ⟨_, rfl⟩
      rw [ha] at hx hy hz
      have q0 := (hbw.cell (p := ⟨b0, _, none⟩) hbB).trans c0
      have q1 := (hbw.cell (p := ⟨b0, _, none⟩) hbB).trans c1
      have q2 := (hbw.cell (p := ⟨b0, _, none⟩) hbB).trans c2
      have htk : l.take (j + 1) = l.take j ++ [a] := by rw [List.take_succ_eq_append_getElem hjl, ha]
      have bj : (0 : Int) ≤ (j : Int) ∧ (j : Int) < (n : Int) := by omega
      obtain ⟨kq, hkq⟩ : ∃ kq, (keyIs x y) a = kq := ⟨_, rfl⟩
      have HC : Hid (Calls Tryz.prog 62 #[.agg #[.string x2, .string y2, .string z2], .pointer (some ⟨g, 0, none⟩)] wr fun e w' => e = .returned (.bool kq) ∧ Below wr.heap.size wr w') := Lib.hid (has1 g x y z x2 y2 z2 wr (kept_heap HG.out hbw) kq (by rw [hx, hy]; exact hkq))
      subst hA
      cases kq with
      | true =>
        obtain rfl : q = true := by
          rw [← HQ.out, List.any_eq_true]
          exact ⟨a, by rw [← ha]; exact List.getElem_mem hjl, hkq⟩
        clear hany hbw hx hy hz c0 c1 c2 htk ha hjl hbB hkq
        go_wp2_with (first
          | (go_at_call 62; (with_reducible refine (HC.out).mono ?_); rintro e2 w2 ⟨rfl, hb2⟩; have HB2 := Lib.hid (stp HBW.out hb2); clear hb2)
          | fail)
        go_ret
        exact ⟨HB2.out, _, rfl, decide_eq_true (by omega)⟩
      | false =>
        have HA2 : Hid ((l.take (j + 1)).any (keyIs x y) = false) := Lib.hid (by rw [htk, List.any_append, hany]; simpa using hkq)
        clear hany hbw hx hy hz c0 c1 c2 htk ha hjl hbB hkq
        go_wp2_with (first
          | (go_at_call 62; (with_reducible refine (HC.out).mono ?_); rintro e2 w2 ⟨rfl, hb2⟩; have HB2 := Lib.hid (stp HBW.out hb2); clear hb2)
          | fail)
        go_roundg (gk - 1)
        case measure => omega
        case rel => exact ⟨j + 1, by omega, by go_num, HA2.out, HB2.out⟩
    · obtain rfl : j = n := by omega
      have hjj : ¬ ((j : Int) < (j : Int)) := by omega
      rw [← HN.out, List.take_length] at hany
      obtain rfl : q = false := by rw [← HQ.out]; exact hany
      clear hany hbw
      go_wp2_with fail
      go_ret
      exact ⟨HBW.out, _, rfl, by decide⟩
theorem has11 (x y z : ByteArray) (A : Option Addr) (n c : Nat) (l : List At) (w : World) (hr : RdB AtS w A l) (hn : l.length = n) (hm : n ≤ 1000000) (a : At) (hx : x.data.toList = a.space) (hy : y.data.toList = a.name) (q : Bool) (hq : hasK l a = q) :
    Calls Tryz.prog 43 #[.slice A n c, .agg #[.string x, .string y, .string z]] w fun e w' => e = .returned (.bool q) ∧ Below w.heap.size w w' := by
  have hq2 : l.any (keyIs x y) = q := by
    rw [← hq]
    unfold hasK
    congr 1
    funext b
    unfold keyIs key
    rw [hx, hy]
    by_cases h1 : a.space = b.space
    · by_cases h2 : a.name = b.name
      · rw [decide_eq_true h1, decide_eq_true h2, decide_eq_true (by rw [h1, h2])]; rfl
      · rw [decide_eq_false h2, Bool.and_false, decide_eq_false fun e => h2 (Prod.mk.inj e).2.symm]
    · rw [decide_eq_false h1, Bool.false_and, decide_eq_false fun e => h1 (Prod.mk.inj e).1.symm]
  have HBA : Hid (Below w.heap.size w (w.alloc (.cells #[.string x, .string y, .string z] 41))) := Lib.hid (stpA (Below.refl _ _) _)
  have HIX : Hid (Calls Tryz.prog 35 #[.slice A n c, .func (.func 62) #[] #[.pointer (some ⟨w.heap.size, 0, none⟩)]] (w.alloc (.cells #[.string x, .string y, .string z] 41)) fun e w' => e = .returned (.bool q) ∧ Below w.heap.size w w') := Lib.hid (by
    have h1 := ixHas w.heap.size x y z (w.alloc (.cells #[.string x, .string y, .string z] 41)) A n c l (heap_alloc_new w _) (hr.on HBA.out) hn hm q hq2
    have HX := Lib.hid h1
    clear h1 hr hn hq hq2
    go_enter Tryz.func35, Tryz.ntmps35
    go_wp2_with (first
      | (go_at_call 58; (with_reducible refine (HX.out).mono ?_); rintro e2 w2 ⟨hb2, r, rfl, hr2⟩; have HB2 := Lib.hid (stp HBA.out hb2); clear hb2)
      | fail)
    go_ret
    exact ⟨rfl, HB2.out⟩)
  clear hr hn hq hq2
  go_enter Tryz.func43, Tryz.ntmps43
  go_wp2_with (first
    | (go_at_call 35; (with_reducible refine (HIX.out).mono ?_); rintro e2 w2 ⟨rfl, hb2⟩; have HB2 := Lib.hid hb2; clear hb2)
    | fail)
  go_ret
  exact ⟨rfl, HB2.out⟩
end Hx
end Go.Proofs.YteobcohjikjalaaGreatDoor
