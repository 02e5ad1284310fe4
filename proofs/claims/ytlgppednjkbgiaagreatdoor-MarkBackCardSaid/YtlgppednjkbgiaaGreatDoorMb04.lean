/-
  Texts of one seat, put together: TextR, TextO, TextS, WordM, MemG, TextT.
-/
import Derived.Test.YtlgppednjkbgiaaGreatDoorMbA
import Derived.Test.YtlgppednjkbgiaaGreatDoorMb00
import Derived.Test.YtlgppednjkbgiaaGreatDoorMb03
import Derived.ChangeAlike
import Derived.RegionTactic
import Derived.IntWalk
import Derived.Deep.RegionHeld3
import Derived.BigQuiet
import Derived.Deep.RegionWith
import Derived.Laws.BitsAllLaws
import Derived.Deep.AppendLies
set_option maxRecDepth 100000
set_option maxHeartbeats 16000000
set_option linter.unusedVariables false
namespace Go.Proofs.YtlgppednjkbgiaaGreatDoor
open Go.RowKit Go.Proofs.Tryz
namespace Hx
open Tx
theorem zQ7 {n:Int} (h:n < 32):may n=(decide (n=9)||decide (n=10)||decide (n=13)):=by unfold may;rw [if_pos h]
theorem zGI {n:Int} (h:¬n < 32):may n=(decide (n≤1114111)&&(decide (n < 55296)||decide (57343 < n))&&decide (n≠65534)&&decide (n≠65535)):=by unfold may;rw [if_neg h]
end Hx
namespace Tx
open Go Hx
end Tx
namespace Hx
open Go
end Hx
namespace Hx
open Tx
theorem zB4 (s:ByteArray):s=⟨s.data.toList.toArray⟩:=by cases s;simp
theorem zAV (s:ByteArray):s.data.toList.length=s.size:=by rw [Array.length_toList];rfl
theorem zRD (a b:ByteArray):(a.toList==b.toList)=decide (a=b):=by
 rw [Bool.eq_iff_iff];simp only [beq_iff_eq,decide_eq_true_eq,ByteArray.toList_eq]
 constructor
 · intro h
   cases a;cases b
   simpa using h
 · intro h;rw [h]
end Hx
namespace Wd
open Go
end Wd
namespace Hx
def RdG {α:Type} (enc:α→Value) (w:World) (B:Nat) (A:Option Addr) (l:List α):Prop :=
 0 < l.length→∃b off,A=some ⟨b,off,none⟩∧b < B∧∀j (h:j < l.length),w.cell? ⟨b,off+j,none⟩=some (enc (l[j]'h))
section
variable {α:Type} {enc:α→Value}
end
theorem zK7 {α:Type} {enc:α→Value} (h1c:∀x,(enc x).oneCell'=true) {P:Program} {w:World} {ops:Array Oper} {rest:List Oper} {o:Oper} {a:Act} {Q:Exit→Act→World→Prop} (hgd:o.guard=none) (s x:Operand) (t:TypeId)
 (ho:o.op=.call { callee:=.builtin .append,args:=#[s,x],argTypes:=#[t,t] })
 (base:Nat) (e:TypeId) (i:TypeInfo) (z:Value) (bytes:Nat) (ht:P.underlying t=some (.slice e)) (hi:P.info? e=some i) (hz:i.zero=some z) (hsize:i.size=1) (hby:i.bytes=bytes) (hb8:bytes≤16) (hzs:z.cells.size=1)
 (v:Value) (n:Nat) (xs:List Value) (hs:a.eval s=v) (hown:w.ownsRow base e 1 v n xs)
 (B:Nat) (A:Option Addr) (m c:Nat) (l:List α) (hx:a.eval x=.slice A m c) (hr:RdG enc w B A l) (hl:l.length=m) (hc0:A=none→c=0) (hb:n+m≤1000000000000) (hbase:base≤w.heap.size)
 (h:∀v' w',w'.ownsRow base e 1 v' (n+m) (xs++l.map enc)→w.grownBy w' v.ownBlock→wpList P ops Q rest (a.put o.dst v') w'):wpList P ops Q (o::rest) a w:=by
 rcases A with _ | ad
 · have h0:l=[]:=by
    rcases Nat.eq_zero_or_pos l.length with h0 | h0
    · exact List.eq_nil_of_length_eq_zero h0
    · obtain ⟨_,_,he,_⟩:=hr h0
      cases he
   subst h0;obtain rfl:0=m:=hl;rw [hc0 rfl] at hx;exact wpList_append_own_none hgd s x t ho base e i 1 ht hi v n xs hs hown hx (h v w (by simpa using hown) (World.grownBy.refl _ _))
 · refine wpList_append_own w hgd s x t ho base e i z 1 bytes ht hi hz hsize hby hzs (by decide) v n xs hs hown ad m c (l.map enc) hx (by rw [List.length_map];omega) ?_ (fun v hv=>by obtain ⟨y,_,rfl⟩:=List.mem_map.1 hv;exact h1c y) (by unfold maxLen;omega) (Nat.le_trans (Nat.mul_le_mul hb hb8) (by decide)) hbase (fun v' w' h1 h2 _=>h v' w' h1 h2)
   intro j u hu
   have hj:j < l.length:=by
    have:=(List.getElem?_eq_some_iff.1 hu).1
    simpa using this
   obtain ⟨b,off,he,_,hc⟩:=hr (by omega)
   cases he
   rw [zBB,hc j hj]
   simpa [hj] using hu
theorem zE1 {α:Type} {enc:α→Value} (h1c:∀x,(enc x).oneCell'=true) {P:Program} {w:World} {ops:Array Oper} {o:Oper} {a:Act} {K:Act→World→Prop} {Q:Exit→Act→World→Prop} {E:Prop} (hgd:o.guard=none) (s x:Operand) (t:TypeId)
 (ho:o.op=.call { callee:=.builtin .append,args:=#[s,x],argTypes:=#[t,t] })
 (base:Nat) (e:TypeId) (i:TypeInfo) (z:Value) (bytes:Nat) (ht:P.underlying t=some (.slice e)) (hi:P.info? e=some i) (hz:i.zero=some z) (hsize:i.size=1) (hby:i.bytes=bytes) (hb8:bytes≤16) (hzs:z.cells.size=1)
 (v:Value) (n:Nat) (xs:List Value) (hs:a.eval s=v) (hown:w.ownsRow base e 1 v n xs)
 (B:Nat) (A:Option Addr) (m c:Nat) (l:List α) (hx:a.eval x=.slice A m c) (hr:RdG enc w B A l) (hl:l.length=m) (hc0:A=none→c=0) (hb:n+m≤1000000000000) (hbase:base≤w.heap.size)
 (h:∀v' w',w'.ownsRow base e 1 v' (n+m) (xs++l.map enc)→w.grownBy w' v.ownBlock→K (a.put o.dst v') w'):if Region.wanted o (yielded ops a.tmps)=true then Oper.wp P o a w K Q else E:=by
 have hw:Region.wanted o (yielded ops a.tmps)=true:=by simp [Region.wanted,hgd]
 rw [if_pos hw]
 have key:∃v' w',(Builtin.append_ #[t,t] o.type #[v,.slice A m c]).run P w=.ok v' w'∧w'.ownsRow base e 1 v' (n+m) (xs++l.map enc)∧w.grownBy w' v.ownBlock:=by
  rcases A with _ | ad
  · have h0:l=[]:=by
     rcases Nat.eq_zero_or_pos l.length with h0 | h0
     · exact List.eq_nil_of_length_eq_zero h0
     · obtain ⟨_,_,he,_⟩:=hr h0
       cases he
    subst h0;obtain rfl:0=m:=hl;rw [hc0 rfl];exact ⟨v,w,run_append_owned_none w base t o.type e i 1 ht hi v n xs hown,by simpa using hown,World.grownBy.refl _ _⟩
  · obtain ⟨v',w',hr',h2,h3,_⟩:=run_append_own (P:=P) w base t o.type e i z 1 bytes ht hi hz hsize hby hzs (by decide) v n xs hown ad m c (l.map enc) (by rw [List.length_map];omega) (by
     intro j u hu
     have hj:j < l.length:=by
      have:=(List.getElem?_eq_some_iff.1 hu).1
      simpa using this
     obtain ⟨b,off,he,_,hc⟩:=hr (by omega)
     cases he
     rw [zBB,hc j hj]
     simpa [hj] using hu) (fun v hv=>by obtain ⟨y,_,rfl⟩:=List.mem_map.1 hv;exact h1c y) (by unfold maxLen;omega) (Nat.le_trans (Nat.mul_le_mul hb hb8) (by decide)) hbase
    exact ⟨v',w',hr',h2,h3⟩
 obtain ⟨v',w',hrun,h2,h3⟩:=key;unfold Oper.wp execOp;simp only [ho,resolve,invoke,builtin,Sem.run_bind,Sem.run_pure,Result.andThen_ok,List.map_toArray,List.map_cons,List.map_nil,hs,hx,hrun];exact h v' w' h2 h3
end Hx
namespace Hx
open Tx
def encZ (z:Int):Value:=.int .i64 z
abbrev RdZ:=@RdG Int encZ
def zs (l:List Nat):List Int:=l.map fun n:Nat=>(n:Int)
theorem zRw:(prog.info? 3).map (fun i=>(i.zero,i.size,i.bytes))=some (some (.int .i64 0),1,8):=by kernel_rfl
theorem zII (s:ByteArray) (a:Nat):s.extract a s.size=⟨(s.data.toList.drop a).toArray⟩:=by
 have:=ByteArray.extract_mk s.data.toList a s.size;rw [←zB4] at this;rw [this,List.take_of_length_le (by rw [List.length_drop,zAV];omega)]
theorem zRs {l:List UInt8} {n k:Nat} (h:one l=some (n,k)):1≤k∧k≤l.length∧n≤1114111:=by
 obtain ⟨_,hs,rfl,r,rfl⟩:=zEt h;exact ⟨(zBJ n).1,by rw [List.length_append];omega,zLt hs⟩
def chkE (s:ByteArray):Int:=if 16384 < s.size then 4 else if (pts s.data.toList).isSome then 0 else 50
end Hx
end Go.Proofs.YtlgppednjkbgiaaGreatDoor
