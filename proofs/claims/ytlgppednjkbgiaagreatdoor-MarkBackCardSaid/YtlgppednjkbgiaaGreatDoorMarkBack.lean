/-
  The law MarkBack answers true, whatever tree it is called with: what mark.Write writes of a tree within none is read by mark.Read as that tree. Conditions: the library's tables and package errors' own errorType read as listed.
-/
import Derived.Test.YtlgppednjkbgiaaGreatDoorMb27
import Derived.Test.YtlgppednjkbgiaaGreatDoorMbL
import Derived.Test.YtlgppednjkbgiaaGreatDoorMbM
import Derived.Test.YtlgppednjkbgiaaGreatDoorCards
import Derived.Test.YtlgppednjkbgiaaGreatDoorTie
import Derived.LaidMore
import Derived.LaidSub
import Derived.MakeChecks
import Derived.Stop.Joined
import Derived.Lib.LaidTab
import Derived.SevenTiedAt
import Derived.Lay
import Derived.LaidHandle
import Derived.Stop.LaidErr
import Derived.WalkKit
import Derived.ProofKit
import Derived.OpenShut
import Derived.ShutString
import Derived.ChangeOld
import Derived.Below
namespace Go.Proofs.YtlgppednjkbgiaaGreatDoor.markBack
open Go.ChangeShapes Go.WideShapes Go.ChangeAt Go.RowKit
open Go.ChangeMaps (open_string shut_string)
open Hx Lx Tr Tx Nmb Es Ns
set_option linter.unusedVariables false

theorem own:ownKnob Tryz.prog.godebug=none:=by kernel_rfl
theorem laidOut:laidOutB Tryz.prog=true:=by kernel_rfl

theorem walk (a0:Option Addr) (len0 cap0:Nat) (v:List Nd) (w:World) (w0:RdB NdS w a0 v) (n0:v.length=len0) (c0:len0<=cap0) (m0:cap0<=maxLen) (z0:a0=none->cap0=0) (hE:Ev9 w) (hT:TbH w) (hEE:EvE w) :
 Calls Tryz.prog 8 #[.slice a0 len0 cap0] w λe w'=>e=.returned (.bool true)/\Below w.heap.size w w':=by
 unfold maxLen at m0
 exact zRK a0 len0 cap0 v w w0 n0 (by omega) hE hT hEE

def plainL:List (String × DataW Unit):=Rows.markBackRow.laid.filter λx=>x.2.handleName?.isNone
theorem handL : (Rows.markBackRow.laid.filter λx => x.2.handleName?.isSome) = [("errors.errorType", Rows.laid_errors_errorType)] := by kernel_rfl
theorem split {W : World} (h : laidMetH Tryz.prog Rows.markBackRow.laid W) : laidMet Tryz.prog plainL W ∧ handlesMet Tryz.prog [("errors.errorType", Rows.laid_errors_errorType)] W := by
 unfold laidMetH at h
 rw [handL] at h
 exact h
theorem gEt : Tryz.prog.globalNamed "errors.errorType" = some 0 := by kernel_rfl
theorem gRt : (Tryz.prog.cutTypes.find? (·.1 == "internal/reflectlite.rtype")).map (·.2) = some 192 := by kernel_rfl
theorem oneRow:((List.range Tryz.prog.types.size).filter λt=>Tryz.prog.rowNamed t [101,114,114,111,114])=[119]:=by kernel_rfl
theorem handed {W:World} (h:laidMetH Tryz.prog Rows.markBackRow.laid W):EvE W:=by
 obtain ⟨name,u,ty,e1,e2,e3,e4,e5⟩:=(split h).2 _ (List.mem_singleton.2 rfl)
 have en:name=[101,114,114,111,114]:=(Option.some.inj e1).symm
 subst en
 obtain rfl:=Option.some.inj (gRt.symm.trans e2)
 have hm:ty∈(List.range Tryz.prog.types.size).filter λt=>Tryz.prog.rowNamed t [101,114,114,111,114]:=List.mem_filter.2 ⟨List.mem_range.2 e3,e4⟩
 rw [oneRow] at hm
 obtain rfl:=List.mem_singleton.1 hm
 have hh:typeHandle Tryz.prog 119=.pointer (some ⟨9,119,none⟩):=by kernel_rfl
 rw [hh] at e5
 exact (by simpa using World.var?_cell gEt e5 0:W.cell? ⟨0,0,none⟩=some (.iface 192 (.agg #[.pointer (some ⟨9,119,none⟩)])))
noncomputable def base0 (os:Os):World :=
 let w0:=World.holding Tryz.prog os ⟨#[],#[],[]⟩
 { w0 with heap:=w0.heap.modify 0 fun
  | .cells _ t frozen=>.cells #[.iface 192 (.agg #[.pointer (some ⟨9,119,none⟩)])] t frozen
  | o=>o }
noncomputable def laidH (os:Os):World:=(base0 os).layVars Tryz.prog plainL
theorem laidH_met (os:Os) (args:Array Value):laidMetH Tryz.prog Rows.markBackRow.laid ((laidH os).forCall (λ_ _=>0) ⟨#[],args,[]⟩).memory:=by
 refine laidMetH_of_parts ?_ (by kernel_rfl)
 have hall:(plainL.filter λx=>(plainL.map (·.1)).contains x.1)=plainL:=by kernel_rfl
 have hnone:(plainL.filter λx=> !(plainL.map (·.1)).contains x.1)=[]:=by kernel_rfl
 have key:laidMet Tryz.prog plainL (laidH os):=laidMet_layVars (w0:=base0 os) (plainL.map (·.1)) [] (by rw [hall];rfl) (by rw [hall];kernel_rfl) (by rw [hall];kernel_rfl) (by rw [hnone];exact LaidIn.none)
 exact key.of_heap (by simp [World.memory,World.forCall,Input.heap])
theorem gTab : Tryz.prog.globalNamed "internal/strconv.uint64pow10" = some 2 := by kernel_rfl
theorem gTabType:(Tryz.prog.globals[2]?).map (·.type)=some 260:=by kernel_rfl
/-- What the row's list gives. -/
theorem table {W:World} (h:laidMetH Tryz.prog Rows.markBackRow.laid W):TbH W:=by
 have h:=(split h).1
 have h2 := laidMet.filter (λx => x.1 == "internal/strconv.uint64pow10") h
 have e : plainL.filter (λx => x.1 == "internal/strconv.uint64pow10") = [("internal/strconv.uint64pow10", Lib.tabData .u64 Lib.pow10Tab)] := by kernel_rfl
 rw [e] at h2
 exact Lib.tabIs_of_head (rest:=[]) gTab gTabType Tryz.underlying260 Tryz.underlying232 (by kernel_rfl) (by kernel_rfl) h2
theorem gErr : Tryz.prog.globalNamed "strconv.ErrSyntax" = some 7 := by kernel_rfl
theorem gErrT:(Tryz.prog.globals[7]?).map (·.type)=some 119:=by kernel_rfl
theorem starE : "*" ++ "errors.errorString" = "*errors.errorString" := by decide
theorem rowE (u : TypeId) (h : Tryz.prog.typeName? 3 u = some "*errors.errorString") : u = 298 :=
 typeName_ptr_named (nm := "errors.errorString") (by rw [starE]; kernel_rfl) (by kernel_rfl) (by decide) u (by rw [starE]; exact h)
theorem erred {W:World} (h:laidMetH Tryz.prog Rows.markBackRow.laid W):Ev W:=by
 have h:=(split h).1
 have h2 := laidMet.filter (λx => x.1 == "strconv.ErrSyntax") h
 have e : plainL.filter (λx => x.1 == "strconv.ErrSyntax") = [("strconv.ErrSyntax", Rows.laid_strconv_ErrSyntax)] := by kernel_rfl
 rw [e] at h2
 obtain ⟨a,s,h3,_⟩:=laid_sentinel (r:=[]) h2 gErr gErrT Tryz.underlying119 rowE Tryz.underlying298 Tryz.underlying300 rfl rfl Tryz.underlying9 (by kernel_rfl) (by kernel_rfl)
 exact ⟨_,_,by simpa using World.var?_cell gErr h3 0⟩
theorem reads_first {W : World} (h : laidMetH Tryz.prog Rows.markBackRow.laid W) : Lib.VarReads Tryz.prog W "unicode/utf8.first" Lib.firstData := by
 have h:=(split h).1
 have h2 := laidMet.filter (λx => x.1 == "unicode/utf8.first") h
 have e : plainL.filter (λx => x.1 == "unicode/utf8.first") = [("unicode/utf8.first", Lib.firstData)] := by kernel_rfl
 rw [e] at h2
 exact Lib.laidMet.reads h2 (.head _)
theorem reads_acceptRanges {W : World} (h : laidMetH Tryz.prog Rows.markBackRow.laid W) : Lib.VarReads Tryz.prog W "unicode/utf8.acceptRanges" Lib.acceptData := by
 have h:=(split h).1
 have h2 := laidMet.filter (λx => x.1 == "unicode/utf8.acceptRanges") h
 have e : plainL.filter (λx => x.1 == "unicode/utf8.acceptRanges") = [("unicode/utf8.acceptRanges", Lib.acceptData)] := by kernel_rfl
 rw [e] at h2
 exact Lib.laidMet.reads h2 (.head _)
theorem laid9 {W:World} (h:laidMetH Tryz.prog Rows.markBackRow.laid W):Ev9 W:=⟨erred h,tabs9 (reads_first h) (reads_acceptRanges h)⟩
set_option maxRecDepth 100000 in
theorem lifted (os:Os) (started:os.Started) (H:Type) (enc:TypeId × Value->H) :
 ReturnsInHanded {} Tryz.checked os 8 .any (λw args=>(Rows.markBackSpec.pre enc Tryz.prog Tryz.f8 [] false w args/\laidMetH Tryz.prog Rows.markBackRow.laid w)/\sizedMet enc Tryz.prog Tryz.f8 (OpenSpec.ofChange Rows.markBackSpec) false w args) (Rows.markBackSpec.post enc Tryz.prog Tryz.f8 false true false false):=by
 refine returnsInHanded_of_change_and (C:=Tryz.checked) (X:=λw _=>laidMetH Tryz.prog Rows.markBackRow.laid w) (λ_ _ _ hh h=>h.of_heap hh) own started (by kernel_rfl) Tryz.func8
  (ChangeSpec.witness_shaped (enc:=enc) (C:=Tryz.checked) (os:=os) (X:=λw _=>laidMetH Tryz.prog Rows.markBackRow.laid w) false (laidH os) #[.slice none 0 0] 8 (World.layVars_os _ _ _) (World.shaped_of_ZipB (by kernel_rfl) (by kernel_rfl)) (by kernel_rfl) (by kernel_rfl) (by kernel_rfl) (laidH_met os _)) ?_
 intro W base args ds gs before hval0 hW _ _ hL _
 have hval:∀(j:Nat) t v,Tryz.f8.params[j]?=some t->args[j]?=some v->Value.okWide Tryz.prog W .any base t v:=hval0
 have hW':=hW
 obtain ⟨p,q,hA0,hV,rfl,hfz,hnd⟩:=hW
 have hA:DataW.TrodAll enc Tryz.prog W 0 (λ_=>true) true Tryz.f8.params.toList args.toList ds p:=hA0
 rw [Tryz.params8] at hA hval
 obtain ⟨v0,vs0,d0,ds0,p0,q0,hargs,rfl,rfl,h0,r0⟩:=trodAll_cons hA
 obtain ⟨rfl,rfl,rfl⟩:=trodAll_nil r0
 obtain rfl:args=#[v0]:=by cases args;simp_all
 obtain ⟨rfl,rfl⟩:=trodVars_none hV
 obtain ⟨a0,len0,cap0,rfl⟩:=okWide_slice Tryz.underlying22 (hval 0 22 v0 rfl rfl)
 have k0:=h0
 have lt0:∀x∈p0,x.block<W.heap.size:=by obtain ⟨m,hm⟩:=k0;exact DataW.trod_lt m _ _ _ hm
 obtain ⟨l0,w0,n0,c0,m0,z0⟩:∃l:List Nd,RdB NdS W a0 l/\l.length=len0/\len0<=cap0/\cap0<=maxLen/\(a0=none->cap0=0):=by
  obtain ⟨fuel,hf⟩:=h0
  obtain ⟨l,A,c,e1,e2,e3,e4,e5⟩:=opens_nodes _ _ _ _ _ _ hf
  simp [Value.cells] at e1
  obtain ⟨rfl,rfl,rfl⟩:=e1
  exact ⟨l,RdC.toS (C:=NdS) e5,rfl,e2,e3,e4⟩
 clear hA0 hval0
 refine (walk a0 len0 cap0 l0 W w0 n0 c0 m0 z0 (laid9 hL) (table hL) (handed hL)).mono λe W' ⟨he,bel⟩=>?_
 subst he
 exact ⟨_,rfl,_,_,_,[],_,[],hW',trodAll_mk1 (shut_bool Tryz.underlying4 _),(trodAll_cons_mk (Below.trod laidOut (by kernel_rfl) (of_decide_eq_true (by kernel_rfl)) k0 bel lt0) trodAll_mk0),rfl,bel.frame _,λh=>by cases h⟩

theorem and_mk {a b:Bool} (h:a=true) (k:b=true):(a&&b)=true:=by rw [h,k];rfl
theorem closed0:(Rows.markBackRow.inPlace==Tryz.pinned.checked.prog.inPlace 8)=true:=by kernel_rfl
theorem closed1:(Rows.markBackRow.unfollowed==Tryz.pinned.checked.prog.unfollowed 8)=true:=by kernel_rfl
theorem closed2:(Rows.markBackRow.recurses==Tryz.pinned.checked.prog.recurses 8)=true:=by kernel_rfl
theorem closed3:(Rows.markBackRow.named==Tryz.pinned.checked.prog.varsNamed 8)=true:=by kernel_rfl
theorem closed4:laidOutB Tryz.pinned.checked.prog=true:=by kernel_rfl
theorem closed5:mapsRowed Tryz.pinned.checked.prog=true:=by kernel_rfl
theorem closed6:Tryz.pinned.checked.prog.stopsHeard=true:=by kernel_rfl
theorem closed7:Tryz.pinned.checked.prog.mayEnter=true:=by kernel_rfl
theorem closed8:(Rows.markBackRow.lifted==Tryz.pinned.checked.prog.liftsFinal)=true:=by kernel_rfl
theorem closed:joinedFacts Tryz.pinned.checked.prog 8 Tryz.f8 Rows.markBackSpec Rows.markBackRow=true:=by
 unfold joinedFacts
 repeat' (first | (with_reducible exact closed0) | (with_reducible exact closed1) | (with_reducible exact closed2) | (with_reducible exact closed3) | (with_reducible exact closed4) | (with_reducible exact closed5) | (with_reducible exact closed6) | (with_reducible exact closed7) | (with_reducible exact closed8) | (with_reducible apply and_mk))
 all_goals kernel_rfl

theorem over:Rows.markBackRow.holds Tryz.pinned (OpenSpec.ofChange Rows.markBackSpec) :=
 OpenClaim.holds_of_wide 8 Tryz.f8 rfl rfl rfl rfl rfl rfl rfl ⟨rfl,rfl,rfl,rfl,rfl⟩ rfl rfl rfl rfl rfl (by kernel_rfl) Tryz.func8 closed
  (of_decide_eq_true (by kernel_rfl)) (by unfold Func.isWrapper;first | (rw [if_pos (by decide +kernel)];kernel_rfl) | (rw [if_neg (by decide +kernel)];exact ⟨rfl,rfl⟩))
  (λos started H enc _=>lifted os started H enc)

theorem said:Rows.MarkBackSaid:=over
theorem plain (f : FuncId) (fn : Func) (hf : Tryz.pinned.checked.prog.funcNamed "tidewaiter/tidewaiterlaw12.MarkBack" = some f) (hfn : Tryz.pinned.checked.prog.funcs[f]? = some fn) :
 true=Tryz.pinned.checked.prog.looks []/\∀(j:Nat) t,fn.params[j]?=some t->Tryz.pinned.checked.prog.wantsStandIn t=false:=by
 obtain rfl : f = 8 := Option.some.inj ((show Tryz.prog.funcNamed "tidewaiter/tidewaiterlaw12.MarkBack" = some 8 by kernel_rfl).symm.trans hf) |>.symm
 obtain rfl:fn=Tryz.f8:=(Option.some.inj (Tryz.func8.symm.trans hfn)).symm
 refine ⟨by kernel_rfl,λj t ht=>?_⟩
 rw [Tryz.params8] at ht
 have hm:t∈[22]:=by simpa using Array.mem_of_getElem? ht
 have hall:([22].all λu=> !Tryz.prog.wantsStandIn u)=true:=by kernel_rfl
 exact (show Tryz.prog.wantsStandIn t=false by simpa using List.all_eq_true.1 hall t hm)
theorem proved:Rows.MarkBackCardSaid :=
 Claim7.holds_tied_plain_at .later [] _ _ _ _ said (λ_ h=>by cases h) (by kernel_rfl) (λ_ h=>by cases h) markBack_row_tie rfl ⟨rfl,rfl⟩ (by kernel_rfl) rfl plain (by kernel_rfl)
end Go.Proofs.YtlgppednjkbgiaaGreatDoor.markBack
