/-
  Texts of one seat, put together: EscS, EscT, LexT, LexK, LexU, LexV.
-/
import Derived.Test.YtlgppednjkbgiaaGreatDoorMbA
import Derived.Test.YtlgppednjkbgiaaGreatDoorMb05
import Derived.Test.YtlgppednjkbgiaaGreatDoorMb03
import Derived.Lib.ConvBytes
import Derived.Lib.BufferMore
import Derived.Deep.RegionHeld3
import Derived.Deep.QuietTactic
import Derived.Test.YtlgppednjkbgiaaGreatDoorMb02
set_option maxRecDepth 100000
set_option maxHeartbeats 16000000
set_option linter.unusedVariables false
namespace Go.Proofs.YtlgppednjkbgiaaGreatDoor
open Go.RowKit Go.Proofs.Tryz
namespace Hx
open Tx Nmb Es
theorem zNH (l:List UInt8):l.foldl (fun a c=>a.bind fun n=>(hxv c).map fun d=>16*n+d) none=none:=by
 induction l with
 | nil=>rfl
 | cons c l ih=>rw [List.foldl_cons];exact ih
theorem zEu {l:List UInt8} {k:Nat} {c:UInt8} (h:l[k]?=some c) (hn:hxv c=none):hexF l=none:=by
 have e:l=l.take (k+1)++l.drop (k+1):=(List.take_append_drop _ _).symm
 have e2:hexF (l.take (k+1))=none:=by
  rw [zDB h,zFF,hn]
  cases hexF (l.take k) <;> rfl
 rw [e];unfold hexF at e2 ⊢;rw [List.foldl_append,e2];exact zNH _
theorem zH3 {l:List UInt8} {k n d:Nat} {c:UInt8} (h:l[k]?=some c) (h1:hexF (l.take k)=some n) (hd:hxv c=some d):hexF (l.take (k+1))=some (16*n+d):=by
 rw [zDB h,zFF,h1,hd]
 rfl
theorem zP1 {l:List UInt8} (h1:l≠[]) (h2:¬6 < l.length) (h3:l.head?≠some 48):hexV l=hexF l:=by
 unfold hexV;rw [if_neg];rintro (h | h | h)
 · exact h1 h
 · exact h2 h
 · exact h3 h
theorem zGG {l:List UInt8} (h:l=[]∨6 < l.length∨l.head?=some 48):hexV l=none:=by unfold hexV;rw [if_pos h]
theorem zRU (r:List UInt8):numL (120::r)=(hexV r).filter fun n:Nat=>may (n:Int):=rfl
theorem zPg {l:List UInt8} (h:l.head?≠some 120):numL l=(zDZ l).filter fun n:Nat=>may (n:Int):=by
 unfold numL
 split
 · exact absurd rfl h
 · rfl
theorem zKa {x y:List UInt8} (h:zBc x=some y):y.length≤4:=by
 unfold zBc at h
 repeat (split at h;· (cases h;simp))
 split at h
 · rw [Option.map_eq_some_iff] at h
   obtain ⟨n,_,rfl⟩:=h;exact (zBJ n).2
 · cases h
theorem zEG (s:ByteArray) (a b:Nat):s.extract a b=⟨((s.data.toList.drop a).take (b - a)).toArray⟩:=by
 have:=ByteArray.extract_mk s.data.toList a b;rw [←zB4] at this;exact this
def getR (s:ByteArray):ByteArray × Int:=if chkE s≠0 then (⟨#[]⟩,chkE s) else match rd s.data.toList with | some x=>(⟨x.toArray⟩,0) | none=>(⟨#[]⟩,80)
end Hx
namespace Hx
open Lx Tx Nmb Es
theorem zKU (a b:ByteArray):(a.toList==b.toList)=decide (a.data.toList=b.data.toList):=by
 rw [Bool.eq_iff_iff];simp only [beq_iff_eq,decide_eq_true_eq,ByteArray.toList_eq]
theorem zE8 {y:ByteArray} (h:okT y.data.toList=true):chkE y=0:=by
 unfold okT at h;rw [Bool.and_eq_true,decide_eq_true_eq,ba_l] at h;unfold chkE;rw [if_neg (by omega),if_pos (show (pts y.data.toList).isSome=true from h.2)]
theorem zEa {y:ByteArray} (h:okT y.data.toList=false):chkE y≠0:=by
 unfold chkE
 by_cases h1:16384 < y.size
 · rw [if_pos h1];decide
 · rw [if_neg h1]
   by_cases h2:(pts y.data.toList).isSome=true
   · exfalso
     unfold okT at h;rw [ba_l,decide_eq_true (by omega),show isP y.data.toList=true from h2] at h
     cases h
   · rw [if_neg h2];decide
def zPr:Array Value:=#[.string ⟨#[]⟩,.string ⟨#[]⟩]
theorem zIg (x y:ByteArray):(#[Value.string x,Value.string y]:Array Value).all (·.oneCell')=true:=by simp [Value.oneCell']
theorem zEI:(prog.info? 187).map (·.size)=some 2:=by kernel_rfl
def zTk:Array Value:=#[.int .u8 0,.string ⟨#[]⟩,.slice none 0 0,.string ⟨#[]⟩]
theorem zCs (k:Int) (x:ByteArray) (v:Value) (y:ByteArray) (hv:v.oneCell'=true:=by rfl):(#[Value.int .u8 k,Value.string x,v,Value.string y]:Array Value).all (·.oneCell')=true:=by simp [Value.oneCell'] at hv ⊢;exact hv
theorem zAo:(prog.info? 131).map (·.size)=some 4:=by kernel_rfl
end Hx
end Go.Proofs.YtlgppednjkbgiaaGreatDoor
