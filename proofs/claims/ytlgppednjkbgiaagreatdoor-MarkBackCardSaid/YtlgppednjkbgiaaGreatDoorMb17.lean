/-
  Texts of one seat, put together: SpaB, SpaC, SpaD, SpaF, SpaG, SpaP.
-/
import Derived.Test.YtlgppednjkbgiaaGreatDoorMbA
import Derived.Test.YtlgppednjkbgiaaGreatDoorMb16
import Derived.Test.YtlgppednjkbgiaaGreatDoorMb03
import Derived.Test.YtlgppednjkbgiaaGreatDoorMb07
import Derived.Test.YtlgppednjkbgiaaGreatDoorMb11
import Derived.Test.YtlgppednjkbgiaaGreatDoorMb12
import Derived.Test.YtlgppednjkbgiaaGreatDoorMb09
set_option maxRecDepth 100000
set_option maxHeartbeats 16000000
set_option linter.unusedVariables false
namespace Go.Proofs.YtlgppednjkbgiaaGreatDoor
open Go.RowKit Go.Proofs.Tryz
namespace Hx
open Lx Tr Tx Nmb Es Ns
theorem zNf {x:ByteArray} {l:List UInt8} (h:x.data.toList=l):x.size=l.length:=by rw [←h,zAV]
theorem zCO (y:ByteArray) (l:List UInt8) (q:Bool) (h:decide (y.data.toList=l)=q):(y.toList==l)=q:=by
 rw [ByteArray.toList_eq,←h]
 by_cases e:y.data.toList=l
 · rw [e];simp
 · rw [decide_eq_false e];exact beq_eq_false_iff_ne.2 e
theorem zGZ (nm:List UInt8):(decl nm).isSome=(decide (nm=zAQ)||decide ((zAQ++[58]) <+: nm)):=by
 unfold decl
 cases hc:cutC nm with
 | none =>
  dsimp only
  have hno:¬(zAQ++[58]) <+: nm:=fun ⟨r,hr⟩=>by
   have h1:=zCP (a:=zAQ) (b:=r) (zCN zB9);rw [←hr,List.append_assoc] at hc;have h2:cutC (zAQ++([58]++r))=some (zAQ,r):=h1;rw [h2] at hc
   cases hc
  rw [decide_eq_false hno]
  by_cases h:nm=zAQ
  · rw [if_pos h,decide_eq_true h];rfl
  · rw [if_neg h,decide_eq_false h];rfl
 | some x =>
  obtain ⟨a,b⟩:=x;dsimp only;obtain ⟨h1,_⟩:=zCH hc
  have hne:nm≠zAQ:=fun h=>by
   rw [h,zC0 zB9] at hc
   cases hc
  rw [decide_eq_false hne]
  by_cases h:a=zAQ
  · rw [if_pos h,decide_eq_true ⟨b,by rw [h1,h];simp⟩];rfl
  · rw [if_neg h,decide_eq_false]
    · rfl
    · rintro ⟨r,hr⟩
      have h2:cutC (zAQ++([58]++r))=some (zAQ,r):=zCP (a:=zAQ) (b:=r) (zCN zB9);rw [←hr,List.append_assoc,h2] at hc;injection hc with hc;injection hc with hc _;exact h hc.symm
theorem zN1 (nm:List UInt8):Lib.hasPrefix nm [120,109,108,110,115,58]=decide ((zAQ++[58]) <+: nm):=by
 unfold Lib.hasPrefix
 by_cases h:(zAQ++[58]) <+: nm
 · rw [decide_eq_true h];exact List.isPrefixOf_iff_prefix.2 h
 · rw [decide_eq_false h];exact Bool.eq_false_iff.2 fun e=>h (List.isPrefixOf_iff_prefix.1 e)
theorem zFR (a:AB) (w:World) (q:Bool) (h:(decl a.y.data.toList).isSome=q) :
 Calls prog 81 #[.agg #[.string a.x,.string a.y,.string a.z]] w fun e w'=>e=.returned (.bool q)∧Below w.heap.size w w':=by
 obtain ⟨x,y,z⟩:=a;dsimp only at h ⊢;obtain ⟨q1,h1⟩:∃q1,decide (y.data.toList=zAQ)=q1:=⟨_,rfl⟩;obtain ⟨q2,h2⟩:∃q2,Lib.hasPrefix y.data.toList [120,109,108,110,115,58]=q2:=⟨_,rfl⟩;rw [zGZ,←zN1,h1,h2] at h;have f1:=zCO y zAQ q1 h1;unfold zAQ at f1;have HP:Hid (∀W:World,Calls prog 115 #[.string y,.string ⟨#[120,109,108,110,115,58]⟩] W fun e w'=>e=.returned (.bool q2)∧w'=W):=hI fun W=>(Tryz.strings_HasPrefix y ⟨#[120,109,108,110,115,58]⟩ W).mono fun e w' h=>⟨by rw [h.1];show _=Ending.returned (Value.bool q2);rw [←h2],h.2⟩
 obtain ⟨W1,hW1⟩:∃W1,w.alloc (.cells #[.string x,.string y,.string z] 44)=W1:=⟨_,rfl⟩;have HB1:Hid (Below w.heap.size w W1):=hI (by rw [←hW1];exact stpA (Below.refl _ _) _);have k1:=zAA W1 _ 1 _ _ _ (show W1.heap[w.heap.size]?=some (.cells #[.string x,.string y,.string z] 44 (0,0)) by rw [←hW1];exact heap_alloc_new w _);clear h1 h2
 cases q1 with
 | true =>
  obtain rfl:q=true:=h.symm;clear h
  go_enter func81,ntmps81
  go_wp2_with fail
  go_ret
  exact ⟨rfl,HB1.out⟩
 | false =>
  obtain rfl:q2=q:=h
  go_enter func81,ntmps81
  go_wp2_with (first
   | (go_at_call 115;(with_reducible refine (HP.out W1).mono ?_);rintro e2 w2 ⟨rfl,rfl⟩)
   | fail)
  go_ret
  exact ⟨rfl,HB1.out⟩
theorem zLR (p v:ByteArray) (w:World) (q:Bool) (h:zB3 p.data.toList v.data.toList=q) :
 Calls prog 83 #[.string p,.string v] w fun e w'=>e=.returned (.bool q)∧Below w.heap.size w w':=by
 obtain ⟨q1,h1⟩:∃q1,decide (p.data.toList=zAQ)=q1:=⟨_,rfl⟩;obtain ⟨q2,h2⟩:∃q2,decide (p.data.toList=xml3)=q2:=⟨_,rfl⟩;obtain ⟨q3,h3⟩:∃q3,decide (v.data.toList=zAr)=q3:=⟨_,rfl⟩;obtain ⟨q4,h4⟩:∃q4,decide (v.data.toList=zAc)=q4:=⟨_,rfl⟩;obtain ⟨q5,h5⟩:∃q5,decide (v.data.toList=[])=q5:=⟨_,rfl⟩;obtain ⟨q6,h6⟩:∃q6,decide (p.data.toList=[])=q6:=⟨_,rfl⟩;have f1:=zCO p zAQ q1 h1;have f2:=zCO p xml3 q2 h2;have f3:=zCO v zAr q3 h3;have f4:=zCO v zAc q4 h4
 have f5:v.toList.isEmpty=q5:=by
  rw [zQw,←h5]
  cases v.data.toList <;> rfl
 have f6:p.toList.isEmpty=q6:=by
  rw [zQw,←h6]
  cases p.data.toList <;> rfl
 unfold zAQ at f1;unfold xml3 at f2;unfold zAr at f3;unfold zAc at f4;have h:=h;unfold zB3 at h;have e4:decide (v.data.toList≠zAc)= !q4:=by rw [←h4];simp
 have e3:decide (v.data.toList≠zAr)= !q3:=by rw [←h3];simp
 have e5:decide (v.data.toList≠[])= !q5:=by rw [←h5];simp
 have e1:decide (p.data.toList≠zAQ)= !q1:=by rw [←h1];simp
 rw [e1,e3,e4,e5,h3,h6] at h
 have h12:q1=true→q2=false:=fun e=>by
  rw [e] at h1;rw [←h2,of_decide_eq_true h1]
  decide
 have hres:q=if q1=true then false else if q2=true then q3 else (!q3&&(!q4&&(!q5||q6))):=by
  cases q2 with
  | true =>
   rw [if_pos (of_decide_eq_true h2)] at h
   cases q1 with
   | true=>have:=h12 rfl;cases this
   | false=>rw [←h];rfl
  | false =>
   rw [if_neg (of_decide_eq_false h2)] at h;rw [←h];have key:∀a b c d e:Bool,(!a&& !b&& !c&&(d|| !e))=if a=true then false else if false=true then b else (!b&&(!c&&(!e||d))):=by decide
   exact key q1 q3 q4 q6 q5
 clear h h1 h2 h3 h4 h5 h6 e1 e3 e4 e5 h12
 cases q1 with
 | true =>
  obtain rfl:q=false:=hres
  go_enter func83,ntmps83
  go_wp2_with fail
  go_ret
  exact ⟨rfl,Below.refl _ _⟩
 | false =>
  cases q2 with
  | true =>
   obtain rfl:q=q3:=hres
   go_enter func83,ntmps83
   go_wp2_with fail
   go_ret
   exact ⟨rfl,Below.refl _ _⟩
  | false =>
   cases q3 <;> cases q4 <;> cases q5 <;> cases q6
   · obtain rfl:q=true:=hres
     go_enter func83,ntmps83
     go_wp2_with fail
     go_ret
     exact ⟨rfl,Below.refl _ _⟩
   · obtain rfl:q=true:=hres
     go_enter func83,ntmps83
     go_wp2_with fail
     go_ret
     exact ⟨rfl,Below.refl _ _⟩
   · obtain rfl:q=false:=hres
     go_enter func83,ntmps83
     go_wp2_with fail
     go_ret
     exact ⟨rfl,Below.refl _ _⟩
   · obtain rfl:q=true:=hres
     go_enter func83,ntmps83
     go_wp2_with fail
     go_ret
     exact ⟨rfl,Below.refl _ _⟩
   · obtain rfl:q=false:=hres
     go_enter func83,ntmps83
     go_wp2_with fail
     go_ret
     exact ⟨rfl,Below.refl _ _⟩
   · obtain rfl:q=false:=hres
     go_enter func83,ntmps83
     go_wp2_with fail
     go_ret
     exact ⟨rfl,Below.refl _ _⟩
   · obtain rfl:q=false:=hres
     go_enter func83,ntmps83
     go_wp2_with fail
     go_ret
     exact ⟨rfl,Below.refl _ _⟩
   · obtain rfl:q=false:=hres
     go_enter func83,ntmps83
     go_wp2_with fail
     go_ret
     exact ⟨rfl,Below.refl _ _⟩
   · obtain rfl:q=false:=hres
     go_enter func83,ntmps83
     go_wp2_with fail
     go_ret
     exact ⟨rfl,Below.refl _ _⟩
   · obtain rfl:q=false:=hres
     go_enter func83,ntmps83
     go_wp2_with fail
     go_ret
     exact ⟨rfl,Below.refl _ _⟩
   · obtain rfl:q=false:=hres
     go_enter func83,ntmps83
     go_wp2_with fail
     go_ret
     exact ⟨rfl,Below.refl _ _⟩
   · obtain rfl:q=false:=hres
     go_enter func83,ntmps83
     go_wp2_with fail
     go_ret
     exact ⟨rfl,Below.refl _ _⟩
   · obtain rfl:q=false:=hres
     go_enter func83,ntmps83
     go_wp2_with fail
     go_ret
     exact ⟨rfl,Below.refl _ _⟩
   · obtain rfl:q=false:=hres
     go_enter func83,ntmps83
     go_wp2_with fail
     go_ret
     exact ⟨rfl,Below.refl _ _⟩
   · obtain rfl:q=false:=hres
     go_enter func83,ntmps83
     go_wp2_with fail
     go_ret
     exact ⟨rfl,Below.refl _ _⟩
   · obtain rfl:q=false:=hres
     go_enter func83,ntmps83
     go_wp2_with fail
     go_ret
     exact ⟨rfl,Below.refl _ _⟩
theorem zRm (s:ByteArray) (hm:s.size≤1000000):∃(p r:ByteArray) (q:Bool),(∀w:World,Calls prog 82 #[.string s,.string ⟨#[58]⟩] w (fun e w'=>e=.returned (.tuple #[.string p,.string r,.bool q])∧Below w.heap.size w w'))∧q=(cutC s.data.toList).isSome∧(q=true→cutC s.data.toList=some (p.data.toList,r.data.toList)∧p.size≤1000000∧r.size≤1000000)∧(q=false→r=⟨#[]⟩):=by
 cases hc:cutC s.data.toList with
 | none =>
  refine ⟨s,⟨#[]⟩,false,(fun w=>zEC s w fun h=>?_),rfl,(fun h=>by cases h),fun _=>rfl⟩;have:=zD6 h;rw [hc] at this
  cases this
 | some x =>
  obtain ⟨a,b⟩:=x;obtain ⟨h1,h2⟩:=zCH hc;have hl:=congrArg List.length h1;rw [zAV,List.length_append,List.length_cons] at hl;refine ⟨⟨a.toArray⟩,⟨b.toArray⟩,true,fun w=>(zEF s ⟨a.toArray⟩ ⟨b.toArray⟩ w hm (by simpa using h1) (by simpa using h2)),rfl,(fun _=>⟨by simp,?_,?_⟩),fun h=>by cases h⟩
  · show a.toArray.size≤_
    rw [List.size_toArray]
    omega
  · show b.toArray.size≤_
    rw [List.size_toArray]
    omega
def EnvD (D:List (List UInt8 × AB)) (E:List (List At)):Prop:=∀p,zA0 E p=match zBs D p with
 | some a=>(a.z.data.toList,true)
 | none=>([],false)
theorem zPO (b:Nat) (D:List (List UInt8 × AB)) (E:List (List At)) (f:ByteArray) (w:World) (h:MapD w b D) (hE:EnvD D E) (hm:f.size≤1000000) :
 Calls prog 84 #[.map (some b),.string f] w fun e w'=>(∃s nm:ByteArray,e=.returned (.tuple #[.string s,.string nm,.bool (zA0 E (Ns.zHQ f.data.toList).1).2])∧s.data.toList=(zA0 E (Ns.zHQ f.data.toList).1).1∧nm.data.toList=(Ns.zHQ f.data.toList).2)∧Below w.heap.size w w':=by
 obtain ⟨p,r,q,hC,hq,hqt,_⟩:=zRm f hm;have HC:=hI (hC w);have HM:=hI h
 cases q with
 | true =>
  obtain ⟨h1,_,_⟩:=hqt rfl;have hnp:Ns.zHQ f.data.toList=(p.data.toList,r.data.toList):=by unfold Ns.zHQ;rw [h1]
  obtain ⟨A,hA⟩:∃A,(zBs D p.data.toList).getD ⟨⟨#[]⟩,⟨#[]⟩,⟨#[]⟩⟩=A:=⟨_,rfl⟩;obtain ⟨k,hk⟩:∃k,(zBs D p.data.toList).isSome=k:=⟨_,rfl⟩
  have hl:zA0 E p.data.toList=(A.z.data.toList,k):=by
   rw [hE,←hA,←hk]
   cases zBs D p.data.toList <;> rfl
  have HL:Hid (∀W,Below w.heap.size w W→(Instr.lookup 65 (.map (some b)) (.string p) true).run prog W=.ok (.tuple #[.agg #[.string A.x,.string A.y,.string A.z],.bool k]) W):=hI fun W hW=>by
   have:=zHf (h.kept (hW.block b (by obtain ⟨es,cl,hb,_⟩:=h;exact (Array.getElem?_eq_some_iff.1 hb).1))) p _ rfl;rw [hA,hk] at this;exact this
  rw [hnp];dsimp only;rw [hl];clear h hE hC hqt h1 hnp hA hk hl hq
  go_enter func84,ntmps84
  go_wp2_with (first
   | (go_at_call 82;(with_reducible refine (HC.out).mono ?_);rintro e1 w1 ⟨rfl,hb1⟩;have HB1:=hI hb1;clear hb1)
   | (refine zCB rfl (.tmp 20) (.tmp 21) 65 rfl rfl rfl (HL.out _ HB1.out) ?_)
   | (refine wpList_store_row rfl _ _ _ rfl w1.heap.size #[.string A.x,.string A.y,.string A.z] rfl rfl 44 #[.string ⟨#[]⟩,.string ⟨#[]⟩,.string ⟨#[]⟩] (heap_alloc_new _ _) zAX rfl (by simp [Value.oneCell']) ?_;rw [World.setRow_alloc_new];obtain ⟨W2,hW2⟩:∃W2,w1.alloc (.cells #[.string A.x,.string A.y,.string A.z] 44)=W2:=⟨_,rfl⟩;rw [hW2];have HB2:Hid (Below w.heap.size w W2):=hI (by rw [←hW2];exact stpA HB1.out _);have k2:=zAA W2 _ 2 _ _ _ (show W2.heap[w1.heap.size]?=some (.cells #[.string A.x,.string A.y,.string A.z] 44 (0,0)) by rw [←hW2];exact heap_alloc_new w1 _))
   | fail)
  go_ret3
  exact ⟨⟨_,_,rfl,rfl,rfl⟩,HB2.out⟩
 | false =>
  have hcn:cutC f.data.toList=none:=by
   cases hc:cutC f.data.toList with
   | none=>rfl
   | some x=>rw [hc] at hq;cases hq
  have hnp:Ns.zHQ f.data.toList=([],f.data.toList):=by unfold Ns.zHQ;rw [hcn]
  obtain ⟨A,hA⟩:∃A,(zBs D []).getD ⟨⟨#[]⟩,⟨#[]⟩,⟨#[]⟩⟩=A:=⟨_,rfl⟩;obtain ⟨k,hk⟩:∃k,(zBs D []).isSome=k:=⟨_,rfl⟩
  have hl:zA0 E []=(A.z.data.toList,k):=by
   rw [hE,←hA,←hk]
   cases zBs D [] <;> rfl
  have HL:Hid (∀W,Below w.heap.size w W→(Instr.lookup 65 (.map (some b)) (.string ⟨#[]⟩) true).run prog W=.ok (.tuple #[.agg #[.string A.x,.string A.y,.string A.z],.bool k]) W):=hI fun W hW=>by
   have:=zHf (h.kept (hW.block b (by obtain ⟨es,cl,hb,_⟩:=h;exact (Array.getElem?_eq_some_iff.1 hb).1))) ⟨#[]⟩ [] rfl;rw [hA,hk] at this;exact this
  rw [hnp];dsimp only;rw [hl];clear h hE hC hqt hcn hnp hA hk hl hq
  go_enter func84,ntmps84
  go_wp2_with (first
   | (go_at_call 82;(with_reducible refine (HC.out).mono ?_);rintro e1 w1 ⟨rfl,hb1⟩;have HB1:=hI hb1;clear hb1)
   | (refine zCB rfl (.tmp 20) (.tmp 21) 65 rfl rfl rfl (HL.out _ HB1.out) ?_)
   | (refine wpList_store_row rfl _ _ _ rfl w1.heap.size #[.string A.x,.string A.y,.string A.z] rfl rfl 44 #[.string ⟨#[]⟩,.string ⟨#[]⟩,.string ⟨#[]⟩] (heap_alloc_new _ _) zAX rfl (by simp [Value.oneCell']) ?_;rw [World.setRow_alloc_new];obtain ⟨W2,hW2⟩:∃W2,w1.alloc (.cells #[.string A.x,.string A.y,.string A.z] 44)=W2:=⟨_,rfl⟩;rw [hW2];have HB2:Hid (Below w.heap.size w W2):=hI (by rw [←hW2];exact stpA HB1.out _);have k2:=zAA W2 _ 2 _ _ _ (show W2.heap[w1.heap.size]?=some (.cells #[.string A.x,.string A.y,.string A.z] 44 (0,0)) by rw [←hW2];exact heap_alloc_new w1 _))
   | fail)
  go_ret3
  exact ⟨⟨_,_,rfl,rfl,rfl⟩,HB2.out⟩
theorem zKz {P:Program} {w:World} {ops:Array Oper} {rest:List Oper} {o:Oper} {a:Act} {Q:Exit→Act→World→Prop}
 (hg:o.guard=none) (m x v:Operand) (t:TypeId) (hop:o.op=Op.mapUpdate t m x v) {w':World} {mv kv vv:Value} (hm:a.eval m=mv) (hx:a.eval x=kv) (hv:a.eval v=vv)
 (hrun:(Instr.mapUpdate t mv kv vv).run P w=.ok () w') (hK:wpList P ops Q rest (a.put o.dst undef) w'):wpList P ops Q (o::rest) a w:=by
 refine wpList_plain hg fun K' hK'=>?_
 unfold Oper.wp
 simp [execOp,hop,hm,hx,hv,hrun,Result.andThen]
 exact hK' _ _ hK
def insA (D:List (List UInt8 × AB)) (l:List At):List (List UInt8 × AB):=l.foldl (fun D a=>match decl a.name with
 | some p=>insD D p (abOf a)
 | none=>D) D
theorem zEp (D:List (List UInt8 × AB)) (l:List At) (a:At):insA D (l++[a])=match decl a.name with
 | some p=>insD (insA D l) p (abOf a)
 | none=>insA D l:=by
 unfold insA;rw [List.foldl_append]
 rfl
theorem zQn {a:At} {x y z:ByteArray} (h1:x.data.toList=a.space) (h2:y.data.toList=a.name) (h3:z.data.toList=a.value):abOf a=⟨x,y,z⟩:=by
 unfold abOf;rw [←h1,←h2,←h3,←zB4 x,←zB4 y,←zB4 z]
theorem zE2 {nm p:List UInt8} (h:decl nm=some p):nm=(if cutC nm=none then zAQ else zAQ++58::p)∧(cutC nm=none→p=[]):=by
 unfold decl at h
 cases hc:cutC nm with
 | none =>
  rw [hc] at h;dsimp only at h
  by_cases hn:nm=zAQ
  · rw [if_pos hn] at h
    exact ⟨by rw [if_pos rfl];exact hn,fun _=>(Option.some.inj h).symm⟩
  · rw [if_neg hn] at h;cases h
 | some x =>
  obtain ⟨a,b⟩:=x;rw [hc] at h;dsimp only at h
  by_cases ha:a=zAQ
  · rw [if_pos ha] at h
    obtain ⟨e,_⟩:=zCH hc;exact ⟨by rw [if_neg (by simp),e,ha,Option.some.inj h],fun h=>by cases h⟩
  · rw [if_neg ha] at h;cases h
theorem zOP {n1 n2 p:List UInt8} (f1:zAP n1=true) (f2:zAP n2=true) (h1:decl n1=some p) (h2:decl n2=some p):n1=n2:=by
 obtain ⟨e1,k1⟩:=zE2 h1;obtain ⟨e2,k2⟩:=zE2 h2
 have ne:∀n:List UInt8,zAP n=true→decl n=some p→cutC n≠none→p≠[]:=fun n hf hd hc hp=>by
  cases hx:cutC n with
  | none=>exact hc hx
  | some x =>
   obtain ⟨a,b⟩:=x;have:=(zE7 hf hx).2;unfold decl at hd;rw [hx] at hd;dsimp only at hd
   split at hd
   · rw [Option.some.inj hd,hp] at this
     cases this
   · cases hd
 by_cases c1:cutC n1=none <;> by_cases c2:cutC n2=none
 · rw [e1,e2,if_pos c1,if_pos c2]
 · exact absurd (k1 c1) (ne n2 f2 h2 c2)
 · exact absurd (k2 c2) (ne n1 f1 h1 c1)
 · rw [e1,e2,if_neg c1,if_neg c2]
theorem zMA (D:List (List UInt8 × AB)):∀(l:List At),(∀a∈l,zAP a.name=true)→(l.map (·.name)).Nodup→∀p,(zBs (insA D l) p).map (·.z.data.toList)=match zBa l p with
 | some v=>some v
 | none=>(zBs D p).map (·.z.data.toList):=by
 suffices h:∀r:List At,(∀a∈r.reverse,zAP a.name=true)→(r.reverse.map (·.name)).Nodup→∀p,(zBs (insA D r.reverse) p).map (·.z.data.toList)=match zBa r.reverse p with
  | some v=>some v
  | none=>(zBs D p).map (·.z.data.toList) by
  intro l hf hn p;have:=h l.reverse (by rw [List.reverse_reverse];exact hf) (by rw [List.reverse_reverse];exact hn) p;rw [List.reverse_reverse] at this;exact this
 intro r
 induction r with
 | nil=>intro _ _ p;rfl
 | cons a r ih =>
  rw [List.reverse_cons]
  generalize r.reverse=l at ih
  intro hf hn p;rw [List.map_append,List.nodup_append] at hn;have hi:=ih (fun b hb=>hf b (List.mem_append.2 (.inl hb))) hn.1 p;have hfa:=hf a (List.mem_append.2 (.inr (List.mem_singleton.2 rfl)));rw [zEp,zBy]
  cases hd:decl a.name with
  | none =>
   dsimp only;rw [hi]
   cases zBa l p with
   | some v=>rfl
   | none =>
    dsimp only;rw [zBa,if_neg (by rw [hd];simp)]
    rfl
  | some k =>
   dsimp only;rw [zDa]
   by_cases hk:k=p
   · subst hk
     rw [if_pos rfl]
     have hno:zBa l k=none:=zDp fun b hb e=>by
      have:=zOP (hf b (List.mem_append.2 (.inl hb))) hfa e hd;exact hn.2.2 b.name (List.mem_map.2 ⟨b,hb,rfl⟩) a.name (by simp) this
     rw [hno];dsimp only;rw [zBa,if_pos hd]
     simp [abOf]
   · rw [if_neg hk,hi]
     cases zBa l p with
     | some v=>rfl
     | none =>
      dsimp only;rw [zBa,if_neg (by rw [hd];simpa using hk)]
      rfl
theorem EnvD.ins {D:List (List UInt8 × AB)} {E:List (List At)} {l:List At} (h:EnvD D E) (hf:∀a∈l,zAP a.name=true) (hn:(l.map (·.name)).Nodup):EnvD (insA D l) (l::E):=fun p=>by
 have h1:=zMA D l hf hn p;rw [zA0]
 cases hd:zBa l p with
 | some v =>
  rw [hd] at h1;dsimp only at h1 ⊢
  cases hl:zBs (insA D l) p with
  | none=>rw [hl] at h1;cases h1
  | some a =>
   rw [hl] at h1;rw [←Option.some.inj h1]
 | none =>
  rw [hd] at h1;dsimp only at h1 ⊢;rw [h p]
  cases hl:zBs (insA D l) p with
  | none =>
   rw [hl] at h1
   cases hl2:zBs D p with
   | none=>rfl
   | some a=>rw [hl2] at h1;cases h1
  | some a =>
   rw [hl] at h1
   cases hl2:zBs D p with
   | none=>rw [hl2] at h1;cases h1
   | some a2 =>
    rw [hl2] at h1;have e:a.z.data.toList=a2.z.data.toList:=Option.some.inj h1;dsimp only;rw [e]
def zBZ (l:List At):Bool:=l.all fun a=>match decl a.name with
 | some p=>zB3 p a.value
 | none=>true
theorem zMO (b:Nat) (D:List (List UInt8 × AB)) (A:Option Addr) (n c:Nat) (l:List At) (w:World) (h:MapD w b D) (hr:RdS AtS w (fun k=>k < b) A l) (hn:l.length=n) (hm:n≤1000000) (hsz:∀a∈l,a.name.length≤1000000) (q:Bool) (hq:zBZ l=q) :
 Calls prog 41 #[.map (some b),.slice A n c] w fun e w'=>e=.returned (.bool q)∧Below b w w'∧w.heap.size≤w'.heap.size∧(q=true→MapD w' b (insA D l)):=by
 have HD:=hI h;have HR:=hI hr;have HN:=hI hn;have HSZ:=hI hsz;have HQ:=hI hq;have HBL:Hid (b < w.heap.size):=hI (by obtain ⟨es,cl,hb,_⟩:=h;exact (Array.getElem?_eq_some_iff.1 hb).1);have bn:(n:Int)≤1000000:=by omega
 clear h hr hn hsz hq
 go_enter func41,ntmps41
 go_wp2_with fail
 go_loopg [12] n (fun gg i wr=>∃j:Nat,j+gg=n∧i=.int .i64 j∧zBZ (l.take j)=true∧MapD wr b (insA D (l.take j))∧Below b w wr)
 case atStart=>exact ⟨0,by omega,rfl,rfl,HD.out,Below.refl _ _⟩
 case round =>
  obtain ⟨j,hjg,rfl,hok,hmd,hbw⟩:=hrel;have HBW:=hI hbw;have HMD:=hI hmd;have HOK:=hI hok;have HBR:Hid (b < wr.heap.size):=hI (Nat.lt_of_lt_of_le HBL.out hbw.size)
  by_cases hlt:j < n
  · have hjl:j < l.length:=by rw [HN.out];exact hlt
    obtain ⟨b0,off,x,y,z,hA,hbB,hx,hy,hz,c0,c1,c2⟩:=zDL HR.out hjl;have hnm:=HSZ.out _ (List.getElem_mem hjl);obtain ⟨a,ha⟩:∃a,l[j]'hjl=a:=⟨_,rfl⟩;rw [ha] at hx hy hz hnm;have q0:=(hbw.cell (p:=⟨b0,_,none⟩) hbB).trans c0;have q1:=(hbw.cell (p:=⟨b0,_,none⟩) hbB).trans c1;have q2:=(hbw.cell (p:=⟨b0,_,none⟩) hbB).trans c2;have htk:l.take (j+1)=l.take j++[a]:=by rw [List.take_succ_eq_append_getElem hjl,ha]
    have hab:=zQn hx hy hz;have bj:(0:Int)≤(j:Int)∧(j:Int) < (n:Int):=by omega
    obtain ⟨W1,hW1⟩:∃W1,wr.alloc (.cells #[.string x,.string y,.string z] 44)=W1:=⟨_,rfl⟩;have HB1:Hid (Below wr.heap.size wr W1):=hI (by rw [←hW1];exact stpA (Below.refl _ _) _);have HX1:Hid (W1.heap[wr.heap.size]?=some (.cells #[.string x,.string y,.string z] 44 (0,0))):=hI (by rw [←hW1];exact heap_alloc_new wr _);obtain ⟨dq,hdq⟩:∃dq,(decl a.name).isSome=dq:=⟨_,rfl⟩;have HDC:Hid (Calls prog 81 #[.agg #[.string x,.string y,.string z]] W1 fun e w'=>e=.returned (.bool dq)∧Below W1.heap.size W1 w'):=hI (zFR ⟨x,y,z⟩ W1 dq (by show (decl y.data.toList).isSome=dq;rw [hy];exact hdq));subst hA
    cases dq with
    | false =>
     have hdn:decl a.name=none:=by cases hd:decl a.name with
      | none=>rfl
      | some p=>rw [hd] at hdq;cases hdq
     have HOK2:Hid (zBZ (l.take (j+1))=true):=hI (by rw [htk];unfold zBZ at hok ⊢;rw [List.all_append,hok];simp [hdn])
     have HMD2:Hid (∀w',Below wr.heap.size wr w'→MapD w' b (insA D (l.take (j+1)))):=hI fun w' hw=>by
      rw [htk,zEp,hdn];exact hmd.kept (hw.block b HBR.out)
     clear hok hmd hbw hx hy hz c0 c1 c2 htk hab ha hnm hdq hdn hjl hbB
     go_wp2_with (first
      | (refine wpList_store_row rfl _ _ _ rfl wr.heap.size #[.string x,.string y,.string z] rfl rfl 44 #[.string ⟨#[]⟩,.string ⟨#[]⟩,.string ⟨#[]⟩] (heap_alloc_new _ _) zAX rfl (by simp [Value.oneCell']) ?_;rw [World.setRow_alloc_new,hW1])
      | (refine wpList_load_row rfl _ _ rfl wr.heap.size rfl 44 #[.string x,.string y,.string z] (0,0) _ HX1.out underlying44 rfl zAX ?_)
      | (go_at_call 81;(with_reducible refine (HDC.out).mono ?_);rintro e2 w2 ⟨rfl,hb2⟩;have HB2:=hI (stp HB1.out hb2);clear hb2)
      | fail)
     go_roundg (gk - 1)
     case measure=>omega
     case rel=>exact ⟨j+1,by omega,by go_num,HOK2.out,HMD2.out _ HB2.out,HBW.out.trans (HB2.out.mono (Nat.le_of_lt HBR.out))⟩
    | true =>
     obtain ⟨p,hdp⟩:∃p,decl a.name=some p:=Option.isSome_iff_exists.1 hdq;have hys:y.size≤1000000:=by rw [zNf hy];exact hnm
     obtain ⟨u,r,cq,hC,hcq,hct,hcn⟩:=zRm y hys;have HC:=hI hC
     have hrp:r.data.toList=p:=by
      cases hc:cutC a.name with
      | none =>
       rw [←hy] at hc;have:cq=false:=by rw [hcq,hc];rfl
       rw [hcn this,(zE2 hdp).2 (by rw [←hy];exact hc)]
      | some x2 =>
       obtain ⟨x2,y2⟩:=x2;have h9:=hdp;unfold decl at h9;rw [hc] at h9;dsimp only at h9;have hcq2:cq=true:=by rw [hcq,hy,hc];rfl
       have h8:=(hct hcq2).1;rw [hy,hc] at h8;injection h8 with h8;injection h8 with _ h8
       split at h9
       · rw [←h8];exact Option.some.inj h9
       · cases h9
     obtain ⟨mq,hmq⟩:∃mq,zB3 p a.value=mq:=⟨_,rfl⟩;have HMY:Hid (∀W:World,Calls prog 83 #[.string r,.string z] W fun e w'=>e=.returned (.bool mq)∧Below W.heap.size W w'):=hI fun W=>zLR r z W mq (by rw [hrp,hz];exact hmq)
     cases mq with
     | false =>
      obtain rfl:q=false:=by
       rw [←HQ.out];unfold zBZ;rw [List.all_eq_false];exact ⟨a,by rw [←ha];exact List.getElem_mem hjl,by rw [hdp];simp [hmq]⟩
      clear hok hmd hbw hx hy hz c0 c1 c2 htk hab ha hnm hdq hjl hbB hC hcq hct hcn hrp hmq hdp hys
      go_wp2_with (first
       | (refine wpList_store_row rfl _ _ _ rfl wr.heap.size #[.string x,.string y,.string z] rfl rfl 44 #[.string ⟨#[]⟩,.string ⟨#[]⟩,.string ⟨#[]⟩] (heap_alloc_new _ _) zAX rfl (by simp [Value.oneCell']) ?_;rw [World.setRow_alloc_new,hW1])
       | (refine wpList_load_row rfl _ _ rfl wr.heap.size rfl 44 #[.string x,.string y,.string z] (0,0) _ HX1.out underlying44 rfl zAX ?_)
       | (go_at_call 81;(with_reducible refine (HDC.out).mono ?_);rintro e2 w2 ⟨rfl,hb2⟩;have HB2:=hI (stp HB1.out hb2);have HX2:=hI (zAB HX1.out hb2);have k1:=zAA w2 _ 1 _ _ _ HX2.out;clear hb2)
       | (go_at_call 82;(with_reducible refine (HC.out w2).mono ?_);rintro e3 w3 ⟨rfl,hb3⟩;have HB3:=hI (stp HB2.out hb3);have HX3:=hI (zAB HX2.out hb3);have k2:=zAA w3 _ 2 _ _ _ HX3.out;clear hb3)
       | (go_at_call 83;(with_reducible refine (HMY.out w3).mono ?_);rintro e4 w4 ⟨rfl,hb4⟩;have HB4:=hI (stp HB3.out hb4);clear hb4)
       | fail)
      go_ret
      exact ⟨rfl,HBW.out.trans (HB4.out.mono (Nat.le_of_lt HBR.out)),Nat.le_trans HBW.out.size HB4.out.size,by first | trivial | (intro h;cases h)⟩
     | true =>
      have HOK2:Hid (zBZ (l.take (j+1))=true):=hI (by rw [htk];unfold zBZ at hok ⊢;rw [List.all_append,hok];simp [hdp,hmq])
      have HUP:Hid (∀W,Below wr.heap.size wr W→∃w',(Instr.mapUpdate 65 (.map (some b)) (.string r) (.agg #[.string x,.string y,.string z])).run prog W=.ok () w'∧MapD w' b (insA D (l.take (j+1)))∧Below b W w'):=hI fun W hW=>by
       obtain ⟨w',k1,k2,_,_,k5⟩:=zDj (hmd.kept (hW.block b HBR.out)) r p hrp ⟨x,y,z⟩;refine ⟨w',k1,?_,k5 b (Nat.le_refl _)⟩;rw [htk,zEp,hdp];dsimp only;rw [hab];exact k2
      clear hok hmd hbw hx hy hz c0 c1 c2 htk hab ha hnm hdq hjl hbB hC hcq hct hcn hrp hmq hdp hys
      go_wp2_with (first
       | (refine wpList_store_row rfl _ _ _ rfl wr.heap.size #[.string x,.string y,.string z] rfl rfl 44 #[.string ⟨#[]⟩,.string ⟨#[]⟩,.string ⟨#[]⟩] (heap_alloc_new _ _) zAX rfl (by simp [Value.oneCell']) ?_;rw [World.setRow_alloc_new,hW1])
       | (refine wpList_load_row rfl _ _ rfl wr.heap.size rfl 44 #[.string x,.string y,.string z] (0,0) _ HX1.out underlying44 rfl zAX ?_)
       | (go_at_call 81;(with_reducible refine (HDC.out).mono ?_);rintro e2 w2 ⟨rfl,hb2⟩;have HB2:=hI (stp HB1.out hb2);have HX2:=hI (zAB HX1.out hb2);have k1:=zAA w2 _ 1 _ _ _ HX2.out;clear hb2)
       | (go_at_call 82;(with_reducible refine (HC.out w2).mono ?_);rintro e3 w3 ⟨rfl,hb3⟩;have HB3:=hI (stp HB2.out hb3);have HX3:=hI (zAB HX2.out hb3);have k2:=zAA w3 _ 2 _ _ _ HX3.out;clear hb3)
       | (go_at_call 83;(with_reducible refine (HMY.out w3).mono ?_);rintro e4 w4 ⟨rfl,hb4⟩;have HB4:=hI (stp HB3.out hb4);have HX4:=hI (zAB HX3.out hb4);obtain ⟨w5,hup,hmd5,hb5⟩:=HUP.out w4 HB4.out;have HUP5:=hI hup;have HMD5:=hI hmd5;have HB5:=hI ((HBW.out.trans (HB4.out.mono (Nat.le_of_lt HBR.out))).trans hb5);clear hb4 hup hmd5 hb5)
       | (refine wpList_load_row rfl _ _ rfl wr.heap.size rfl 44 #[.string x,.string y,.string z] (0,0) _ HX4.out underlying44 rfl zAX ?_)
       | (refine zKz rfl (.tmp 31) (.tmp 32) (.tmp 33) 65 rfl rfl rfl rfl HUP5.out ?_)
       | fail)
      go_roundg (gk - 1)
      case measure=>omega
      case rel=>exact ⟨j+1,by omega,by go_num,HOK2.out,HMD5.out,HB5.out⟩
  · obtain rfl:j=n:=by omega
    have hjj:¬((j:Int) < (j:Int)):=by omega
    rw [←HN.out,List.take_length] at hok hmd;obtain rfl:q=true:=by rw [←HQ.out];exact hok
    have HF:=hI hmd;clear hok hmd hbw
    go_wp2_with fail
    go_ret
    exact ⟨rfl,HBW.out,HBW.out.size,by first | exact HF.out | exact fun _=>HF.out⟩
theorem zJ1 (a b:ByteArray) (q:Bool) (h:decide (a.data.toList=b.data.toList)=q):(a.toList==b.toList)=q:=by
 rw [ByteArray.toList_eq,ByteArray.toList_eq,←h]
 by_cases e:a.data.toList=b.data.toList
 · rw [e];simp
 · rw [decide_eq_false e];exact beq_eq_false_iff_ne.2 e
def zK5 (x y:ByteArray) (a:At):Bool:=decide (x.data.toList=a.space)&&decide (y.data.toList=a.name)
theorem has1 (g:Nat) (x y z x2 y2 z2:ByteArray) (w:World) (hg:w.heap[g]?=some (.cells #[.string x,.string y,.string z] 44 (0,0))) (q:Bool) (hq:(decide (x.data.toList=x2.data.toList)&&decide (y.data.toList=y2.data.toList))=q) :
 Calls prog 118 #[.agg #[.string x2,.string y2,.string z2],.pointer (some ⟨g,0,none⟩)] w fun e w'=>e=.returned (.bool q)∧Below w.heap.size w w':=by
 obtain ⟨q1,h1⟩:∃q1,decide (x.data.toList=x2.data.toList)=q1:=⟨_,rfl⟩;obtain ⟨q2,h2⟩:∃q2,decide (y.data.toList=y2.data.toList)=q2:=⟨_,rfl⟩;rw [h1,h2] at hq;have f1:=zJ1 x x2 q1 h1;have f2:=zJ1 y y2 q2 h2;obtain ⟨W1,hW1⟩:∃W1,w.alloc (.cells #[.string x2,.string y2,.string z2] 44)=W1:=⟨_,rfl⟩;have HB1:Hid (Below w.heap.size w W1):=hI (by rw [←hW1];exact stpA (Below.refl _ _) _);have hX:=zAB hg HB1.out;have hN:W1.heap[w.heap.size]?=some (.cells #[.string x2,.string y2,.string z2] 44 (0,0)):=by rw [←hW1];exact heap_alloc_new w _
 have k0:=zAA W1 _ 0 _ _ _ hX;have k1:=zAA W1 _ 1 _ _ _ hX;have n0:=zAA W1 _ 0 _ _ _ hN;have n1:=zAA W1 _ 1 _ _ _ hN;clear h1 h2 hX hN hg
 cases q1 with
 | false =>
  obtain rfl:q=false:=hq.symm
  go_enter func118,ntmps118
  go_wp2_with fail
  go_ret
  exact ⟨rfl,HB1.out⟩
 | true =>
  obtain rfl:q2=q:=hq
  go_enter func118,ntmps118
  go_wp2_with fail
  go_ret
  exact ⟨rfl,HB1.out⟩
theorem zSJ (g:Nat) (x y z:ByteArray) (w:World) (A:Option Addr) (n c:Nat) (l:List At) (hg:w.heap[g]?=some (.cells #[.string x,.string y,.string z] 44 (0,0))) (hr:RdB AtS w A l) (hn:l.length=n) (hm:n≤1000000) (q:Bool) (hq:l.any (zK5 x y)=q) :
 Calls prog 114 #[.slice A n c,.func (.func 118) #[] #[.pointer (some ⟨g,0,none⟩)]] w fun e w'=>Below w.heap.size w w'∧∃r:Int,e=.returned (.int .i64 r)∧decide (0≤r)=q:=by
 have HR:=hI hr;have HN:=hI hn;have HQ:=hI hq;have HG:=hI hg;have bn:(n:Int)≤1000000:=by omega
 clear hr hn hq
 go_enter func114,ntmps114
 go_wp2_with fail
 go_loopg [8] n (fun gg i wr=>∃j:Nat,j+gg=n∧i=.int .i64 j∧(l.take j).any (zK5 x y)=false∧Below w.heap.size w wr)
 case atStart=>exact ⟨0,by omega,rfl,rfl,Below.refl _ _⟩
 case round =>
  obtain ⟨j,hjg,rfl,hany,hbw⟩:=hrel;have HBW:=hI hbw
  by_cases hlt:j < n
  · have hjl:j < l.length:=by rw [HN.out];exact hlt
    obtain ⟨b0,off,x2,y2,z2,hA,hbB,hx,hy,hz,c0,c1,c2⟩:=zDL HR.out hjl;obtain ⟨a,ha⟩:∃a,l[j]'hjl=a:=⟨_,rfl⟩;rw [ha] at hx hy hz;have q0:=(hbw.cell (p:=⟨b0,_,none⟩) hbB).trans c0;have q1:=(hbw.cell (p:=⟨b0,_,none⟩) hbB).trans c1;have q2:=(hbw.cell (p:=⟨b0,_,none⟩) hbB).trans c2;have htk:l.take (j+1)=l.take j++[a]:=by rw [List.take_succ_eq_append_getElem hjl,ha]
    have bj:(0:Int)≤(j:Int)∧(j:Int) < (n:Int):=by omega
    obtain ⟨kq,hkq⟩:∃kq,(zK5 x y) a=kq:=⟨_,rfl⟩;have HC:Hid (Calls prog 118 #[.agg #[.string x2,.string y2,.string z2],.pointer (some ⟨g,0,none⟩)] wr fun e w'=>e=.returned (.bool kq)∧Below wr.heap.size wr w'):=hI (has1 g x y z x2 y2 z2 wr (zAB HG.out hbw) kq (by rw [hx,hy];exact hkq));subst hA
    cases kq with
    | true =>
     obtain rfl:q=true:=by
      rw [←HQ.out,List.any_eq_true];exact ⟨a,by rw [←ha];exact List.getElem_mem hjl,hkq⟩
     clear hany hbw hx hy hz c0 c1 c2 htk ha hjl hbB hkq
     go_wp2_with (first
      | (go_at_call 118;(with_reducible refine (HC.out).mono ?_);rintro e2 w2 ⟨rfl,hb2⟩;have HB2:=hI (stp HBW.out hb2);clear hb2)
      | fail)
     go_ret
     exact ⟨HB2.out,_,rfl,decide_eq_true (by omega)⟩
    | false =>
     have HA2:Hid ((l.take (j+1)).any (zK5 x y)=false):=hI (by rw [htk,List.any_append,hany];simpa using hkq);clear hany hbw hx hy hz c0 c1 c2 htk ha hjl hbB hkq
     go_wp2_with (first
      | (go_at_call 118;(with_reducible refine (HC.out).mono ?_);rintro e2 w2 ⟨rfl,hb2⟩;have HB2:=hI (stp HBW.out hb2);clear hb2)
      | fail)
     go_roundg (gk - 1)
     case measure=>omega
     case rel=>exact ⟨j+1,by omega,by go_num,HA2.out,HB2.out⟩
  · obtain rfl:j=n:=by omega
    have hjj:¬((j:Int) < (j:Int)):=by omega
    rw [←HN.out,List.take_length] at hany;obtain rfl:q=false:=by rw [←HQ.out];exact hany
    clear hany hbw
    go_wp2_with fail
    go_ret
    exact ⟨HBW.out,_,rfl,by decide⟩
theorem zSD (x y z:ByteArray) (A:Option Addr) (n c:Nat) (l:List At) (w:World) (hr:RdB AtS w A l) (hn:l.length=n) (hm:n≤1000000) (a:At) (hx:x.data.toList=a.space) (hy:y.data.toList=a.name) (q:Bool) (hq:hasK l a=q) :
 Calls prog 86 #[.slice A n c,.agg #[.string x,.string y,.string z]] w fun e w'=>e=.returned (.bool q)∧Below w.heap.size w w':=by
 have hq2:l.any (zK5 x y)=q:=by
  rw [←hq];unfold hasK
  congr 1
  funext b
  unfold zK5 key;rw [hx,hy]
  by_cases h1:a.space=b.space
  · by_cases h2:a.name=b.name
    · rw [decide_eq_true h1,decide_eq_true h2,decide_eq_true (by rw [h1,h2])];rfl
    · rw [decide_eq_false h2,Bool.and_false,decide_eq_false fun e=>h2 (Prod.mk.inj e).2.symm]
  · rw [decide_eq_false h1,Bool.false_and,decide_eq_false fun e=>h1 (Prod.mk.inj e).1.symm]
 have HBA:Hid (Below w.heap.size w (w.alloc (.cells #[.string x,.string y,.string z] 44))):=hI (stpA (Below.refl _ _) _)
 have HIX:Hid (Calls prog 78 #[.slice A n c,.func (.func 118) #[] #[.pointer (some ⟨w.heap.size,0,none⟩)]] (w.alloc (.cells #[.string x,.string y,.string z] 44)) fun e w'=>e=.returned (.bool q)∧Below w.heap.size w w'):=hI (by
  have h1:=zSJ w.heap.size x y z (w.alloc (.cells #[.string x,.string y,.string z] 44)) A n c l (heap_alloc_new w _) (hr.on HBA.out) hn hm q hq2;have HX:=hI h1;clear h1 hr hn hq hq2
  go_enter func78,ntmps78
  go_wp2_with (first
   | (go_at_call 114;(with_reducible refine (HX.out).mono ?_);rintro e2 w2 ⟨hb2,r,rfl,hr2⟩;have HB2:=hI (stp HBA.out hb2);clear hb2)
   | fail)
  go_ret
  exact ⟨rfl,HB2.out⟩)
 clear hr hn hq hq2
 go_enter func86,ntmps86
 go_wp2_with (first
  | (go_at_call 78;(with_reducible refine (HIX.out).mono ?_);rintro e2 w2 ⟨rfl,hb2⟩;have HB2:=hI hb2;clear hb2)
  | fail)
 go_ret
 exact ⟨rfl,HB2.out⟩
theorem zD2 (v:ByteArray) (q:Bool) (h:decide (v.data.toList=[])=q):v.toList.isEmpty=q:=by
 rw [zQw,←h]
 cases v.data.toList <;> rfl
theorem zOd (l:List At) (j:Nat) (a:At) (hj:j < l.length) (ha:l[j]'hj=a):(l.drop j).all zDv=(zDv a&&(l.drop (j+1)).all zDv):=by
 rw [List.drop_eq_getElem_cons hj,List.all_cons,ha]
theorem zLN (n:Nd) (x y z:ByteArray) (A:Option Addr) (c:Nat) (w:World) (h:NdAt n x y z A c w) (hs:zAW n) (hk:n.kind=1) (q:Bool) (hq:zCT n=q) :
 Calls prog 54 #[NdV n x y z A c] w fun e w'=>e=.returned (.bool q)∧Below w.heap.size w w':=by
 have HBO:Hid (∀o,Below w.heap.size w (w.alloc o)):=hI fun o=>(Below.refl _ _).alloc (Nat.le_refl _) o
 have HR:=hI h.rd;have HYS:Hid (y.size≤1000000):=hI (by rw [←ba_l,h.name];exact hs.name);have HEA:=hI hs.each;obtain ⟨m,hm⟩:∃m,n.attrs.length=m:=⟨_,rfl⟩;have bm:(m:Int)≤1000000:=by have:=hs.attrs;omega
 have HNL:=hI hm;obtain ⟨y9,hmy⟩:∃y9,n.many=y9:=⟨_,rfl⟩;obtain ⟨a1,h1⟩:∃a,zBG y.data.toList=a:=⟨_,rfl⟩;obtain ⟨a2,h2⟩:∃a,decide (x.data.toList=zAr)=a:=⟨_,rfl⟩;obtain ⟨a3,h3⟩:∃a,decide (x.data.toList=zAc)=a:=⟨_,rfl⟩
 have HQ:Hid (q=(a1&& !a2&& !a3&&n.attrs.all zDv)):=hI (by
  rw [←hq,←h1,←h2,←h3,h.space,h.name];unfold zCT;rw [hk]
  simp)
 have HNM:Hid (∀W:World,Calls prog 22 #[.string y] W fun e w'=>e=.returned (.bool a1)∧Below W.heap.size W w'):=hI fun W=>zRP y W HYS.out a1 h1
 have f2:=zCO x zAr a2 h2;have f3:=zCO x zAc a3 h3;unfold zAr at f2;unfold zAc at f3;obtain ⟨l,hl⟩:∃l,n.attrs=l:=⟨_,rfl⟩;rw [hl] at HR HEA HNL HQ;unfold NdV;rw [hk,hm,hmy];clear h hs hk hq h1 h2 h3 hm hmy hl
 cases a1 with
 | false =>
  obtain rfl:q=false:=HQ.out
  go_enter func54,ntmps54
  go_wp2_with (first
   | (go_at_call 22;(with_reducible refine (HNM.out _).mono ?_);rintro e1 w1 ⟨rfl,hb1⟩;have HB1:Hid (Below w.heap.size w w1):=hI (zA7 (HBO.out _) hb1);have HX1:=hI (zAB (heap_alloc_new w (.cells #[.int .u8 ((1:Nat):Int),.string x,.string y,.slice A m c,.string z,.int .i64 y9] 42)) hb1);have d11:=zAA w1 _ 1 _ _ _ HX1.out;have d13:=zAA w1 _ 3 _ _ _ HX1.out;clear hb1)
   | fail)
  go_ret
  exact ⟨rfl,HB1.out⟩
 | true =>
  cases a2 with
  | true =>
   obtain rfl:q=false:=HQ.out
   go_enter func54,ntmps54
   go_wp2_with (first
    | (go_at_call 22;(with_reducible refine (HNM.out _).mono ?_);rintro e1 w1 ⟨rfl,hb1⟩;have HB1:Hid (Below w.heap.size w w1):=hI (zA7 (HBO.out _) hb1);have HX1:=hI (zAB (heap_alloc_new w (.cells #[.int .u8 ((1:Nat):Int),.string x,.string y,.slice A m c,.string z,.int .i64 y9] 42)) hb1);have d11:=zAA w1 _ 1 _ _ _ HX1.out;have d13:=zAA w1 _ 3 _ _ _ HX1.out;clear hb1)
    | fail)
   go_ret
   exact ⟨rfl,HB1.out⟩
  | false =>
   cases a3 with
   | true =>
    obtain rfl:q=false:=HQ.out
    go_enter func54,ntmps54
    go_wp2_with (first
     | (go_at_call 22;(with_reducible refine (HNM.out _).mono ?_);rintro e1 w1 ⟨rfl,hb1⟩;have HB1:Hid (Below w.heap.size w w1):=hI (zA7 (HBO.out _) hb1);have HX1:=hI (zAB (heap_alloc_new w (.cells #[.int .u8 ((1:Nat):Int),.string x,.string y,.slice A m c,.string z,.int .i64 y9] 42)) hb1);have d11:=zAA w1 _ 1 _ _ _ HX1.out;have d13:=zAA w1 _ 3 _ _ _ HX1.out;clear hb1)
     | fail)
    go_ret
    exact ⟨rfl,HB1.out⟩
   | false =>
    have HQ2:Hid (l.all zDv=q):=hI HQ.out.symm;clear HQ
    go_enter func54,ntmps54
    go_wp2_with (first
     | (go_at_call 22;(with_reducible refine (HNM.out _).mono ?_);rintro e1 w1 ⟨rfl,hb1⟩;have HB1:Hid (Below w.heap.size w w1):=hI (zA7 (HBO.out _) hb1);have HX1:=hI (zAB (heap_alloc_new w (.cells #[.int .u8 ((1:Nat):Int),.string x,.string y,.slice A m c,.string z,.int .i64 y9] 42)) hb1);have d11:=zAA w1 _ 1 _ _ _ HX1.out;have d13:=zAA w1 _ 3 _ _ _ HX1.out;clear hb1)
     | fail)
    go_loopg [22] m (fun gg i wr=>∃j:Nat,j+gg=m∧i=.int .i64 j∧(l.drop j).all zDv=q∧Below w.heap.size w wr)
    case atStart=>exact ⟨0,by omega,rfl,HQ2.out,HB1.out⟩
    case round =>
     obtain ⟨j,hjg,rfl,hall,hbw⟩:=hrel;have HBW:=hI hbw
     by_cases hlt:j < m
     · have hjl:j < l.length:=by rw [HNL.out];exact hlt
       obtain ⟨b0,off,x2,y2,z2,hA,hbB,hx,hy,hz,c0,c1',c2⟩:=zDL HR.out hjl;have hea:=HEA.out _ (List.getElem_mem hjl);obtain ⟨a,ha⟩:∃a,l[j]'hjl=a:=⟨_,rfl⟩;rw [ha] at hx hy hz hea;have hys2:y2.size≤1000000:=by rw [zNf hy];exact hea.2.1
       have q0:=(HBW.out.cell (p:=⟨b0,_,none⟩) hbB).trans c0;have q1:=(HBW.out.cell (p:=⟨b0,_,none⟩) hbB).trans c1';have q2:=(HBW.out.cell (p:=⟨b0,_,none⟩) hbB).trans c2;have hal:=zOd l j a hjl ha;rw [hall] at hal;have bj:(0:Int)≤(j:Int)∧(j:Int) < (m:Int):=by omega
       obtain ⟨W1,hW1⟩:∃W1,wr.alloc (.cells #[.string x2,.string y2,.string z2] 44)=W1:=⟨_,rfl⟩;have HA1:Hid (Below wr.heap.size wr W1):=hI (by rw [←hW1];exact stpA (Below.refl _ _) _);have HY1:Hid (W1.heap[wr.heap.size]?=some (.cells #[.string x2,.string y2,.string z2] 44 (0,0))):=hI (by rw [←hW1];exact heap_alloc_new wr _);have k11:=zAA W1 _ 1 _ _ _ HY1.out;obtain ⟨b1,h1⟩:∃b,zBG y2.data.toList=b:=⟨_,rfl⟩;obtain ⟨b2,h2⟩:∃b,decide (x2.data.toList=zAc)=b:=⟨_,rfl⟩;obtain ⟨b3,h3⟩:∃b,decide (x2.data.toList=[])=b:=⟨_,rfl⟩;obtain ⟨b4,h4⟩:∃b,decide (y2.data.toList=zAQ)=b:=⟨_,rfl⟩
       have HM:Hid (q=(b1&& !(b3&&b4)&& !b2&&(l.drop (j+1)).all zDv)):=hI (by
        rw [hal]
        congr 1
        unfold zDv;rw [←hx,←hy,h1,h3,h4,←h2]
        simp)
       have HN2:Hid (Calls prog 22 #[.string y2] W1 fun e w'=>e=.returned (.bool b1)∧Below W1.heap.size W1 w'):=hI (zRP y2 W1 hys2 b1 h1);have g2:=zCO x2 zAc b2 h2;have g3:=zD2 x2 b3 h3;have g4:=zCO y2 zAQ b4 h4;unfold zAc at g2;unfold zAQ at g4;subst hA;clear hall hbw hx hy hz c0 c1' c2 hal ha hea hys2 h1 h2 h3 h4 hjl hbB
       cases b1 with
       | false =>
        obtain rfl:q=false:=by rw [HM.out];simp
        go_wp2_with (first
         | (refine wpList_store_row rfl _ _ _ rfl wr.heap.size #[.string x2,.string y2,.string z2] rfl rfl 44 #[.string ⟨#[]⟩,.string ⟨#[]⟩,.string ⟨#[]⟩] (heap_alloc_new _ _) zAX rfl (by simp [Value.oneCell']) ?_;rw [World.setRow_alloc_new,hW1])
         | (go_at_call 22;(with_reducible refine (HN2.out).mono ?_);rintro e2 w2 ⟨rfl,hb2⟩;have HB2:=hI (stp HA1.out hb2);have HY2:=hI (zAB HY1.out hb2);have k20:=zAA w2 _ 0 _ _ _ HY2.out;have k21:=zAA w2 _ 1 _ _ _ HY2.out;clear hb2)
         | fail)
        go_ret
        exact ⟨rfl,HBW.out.trans (HB2.out.mono HBW.out.size)⟩
       | true =>
        cases b2 with
        | true =>
         obtain rfl:q=false:=by rw [HM.out];simp
         go_wp2_with (first
          | (refine wpList_store_row rfl _ _ _ rfl wr.heap.size #[.string x2,.string y2,.string z2] rfl rfl 44 #[.string ⟨#[]⟩,.string ⟨#[]⟩,.string ⟨#[]⟩] (heap_alloc_new _ _) zAX rfl (by simp [Value.oneCell']) ?_;rw [World.setRow_alloc_new,hW1])
          | (go_at_call 22;(with_reducible refine (HN2.out).mono ?_);rintro e2 w2 ⟨rfl,hb2⟩;have HB2:=hI (stp HA1.out hb2);have HY2:=hI (zAB HY1.out hb2);have k20:=zAA w2 _ 0 _ _ _ HY2.out;have k21:=zAA w2 _ 1 _ _ _ HY2.out;clear hb2)
          | fail)
         go_ret
         exact ⟨rfl,HBW.out.trans (HB2.out.mono HBW.out.size)⟩
        | false =>
         cases b3 with
         | false =>
          have HM2:Hid ((l.drop (j+1)).all zDv=q):=hI (by rw [HM.out];simp)
          go_wp2_with (first
           | (refine wpList_store_row rfl _ _ _ rfl wr.heap.size #[.string x2,.string y2,.string z2] rfl rfl 44 #[.string ⟨#[]⟩,.string ⟨#[]⟩,.string ⟨#[]⟩] (heap_alloc_new _ _) zAX rfl (by simp [Value.oneCell']) ?_;rw [World.setRow_alloc_new,hW1])
           | (go_at_call 22;(with_reducible refine (HN2.out).mono ?_);rintro e2 w2 ⟨rfl,hb2⟩;have HB2:=hI (stp HA1.out hb2);have HY2:=hI (zAB HY1.out hb2);have k20:=zAA w2 _ 0 _ _ _ HY2.out;have k21:=zAA w2 _ 1 _ _ _ HY2.out;clear hb2)
           | fail)
          go_roundg (gk - 1)
          case measure=>omega
          case rel=>exact ⟨j+1,by omega,by go_num,HM2.out,HBW.out.trans (HB2.out.mono HBW.out.size)⟩
         | true =>
          cases b4 with
          | true =>
           obtain rfl:q=false:=by rw [HM.out];simp
           go_wp2_with (first
            | (refine wpList_store_row rfl _ _ _ rfl wr.heap.size #[.string x2,.string y2,.string z2] rfl rfl 44 #[.string ⟨#[]⟩,.string ⟨#[]⟩,.string ⟨#[]⟩] (heap_alloc_new _ _) zAX rfl (by simp [Value.oneCell']) ?_;rw [World.setRow_alloc_new,hW1])
            | (go_at_call 22;(with_reducible refine (HN2.out).mono ?_);rintro e2 w2 ⟨rfl,hb2⟩;have HB2:=hI (stp HA1.out hb2);have HY2:=hI (zAB HY1.out hb2);have k20:=zAA w2 _ 0 _ _ _ HY2.out;have k21:=zAA w2 _ 1 _ _ _ HY2.out;clear hb2)
            | fail)
           go_ret
           exact ⟨rfl,HBW.out.trans (HB2.out.mono HBW.out.size)⟩
          | false =>
           have HM2:Hid ((l.drop (j+1)).all zDv=q):=hI (by rw [HM.out];simp)
           go_wp2_with (first
            | (refine wpList_store_row rfl _ _ _ rfl wr.heap.size #[.string x2,.string y2,.string z2] rfl rfl 44 #[.string ⟨#[]⟩,.string ⟨#[]⟩,.string ⟨#[]⟩] (heap_alloc_new _ _) zAX rfl (by simp [Value.oneCell']) ?_;rw [World.setRow_alloc_new,hW1])
            | (go_at_call 22;(with_reducible refine (HN2.out).mono ?_);rintro e2 w2 ⟨rfl,hb2⟩;have HB2:=hI (stp HA1.out hb2);have HY2:=hI (zAB HY1.out hb2);have k20:=zAA w2 _ 0 _ _ _ HY2.out;have k21:=zAA w2 _ 1 _ _ _ HY2.out;clear hb2)
            | fail)
           go_roundg (gk - 1)
           case measure=>omega
           case rel=>exact ⟨j+1,by omega,by go_num,HM2.out,HBW.out.trans (HB2.out.mono HBW.out.size)⟩
     · obtain rfl:j=m:=by omega
       have hjj:¬((j:Int) < (j:Int)):=by omega
       rw [←HNL.out,List.drop_length] at hall;obtain rfl:q=true:=hall.symm;clear hbw hall
       go_wp2_with fail
       go_ret
       exact ⟨rfl,HBW.out⟩
def OkR (g:List Nd→Option (List Nd)):Prop:=∀l r,g l=some r→∃p,l=p++r∧∀n∈p,ndOk n=true
theorem zJv {g:List Nd→Option (List Nd)} (hg:OkR g):∀(k:Nat) (b:Bool) (l:List Nd) (b':Bool) (r:List Nd),zAG g k b l=some (b',r)→∃p,l=p++r∧∀n∈p,ndOk n=true
 | 0,b,l,b',r,h=>by
  rw [zAG] at h;obtain ⟨rfl,rfl⟩:=(Prod.mk.injEq _ _ _ _).mp (Option.some.inj h);exact ⟨[],rfl,fun n hn=>by cases hn⟩
 | k+1,b,[],b',r,h=>by rw [zAG] at h;cases h
 | k+1,b,n::l,b',r,h=>by
  rw [zAG] at h
  split at h
  · cases h
  · split at h
    · cases h
    · rename_i y hy
      obtain ⟨p,e1,h1⟩:=hg _ _ hy;obtain ⟨p2,e2,h2⟩:=zJv hg k _ _ _ _ h;refine ⟨p++p2,by rw [e1,e2,List.append_assoc],fun m hm=>?_⟩;rcases List.mem_append.1 hm with hm | hm
      · exact h1 m hm
      · exact h2 m hm
theorem zJp:∀d,OkR (zAE d)
 | d,[],r,h=>by cases d <;> (rw [zAE] at h;cases h)
 | 0,n::l,r,h=>by
  rw [zAE] at h
  split at h
  · rename_i hn
    injection h with h;subst h;exact ⟨[n],rfl,fun m hm=>by rw [List.mem_singleton] at hm;rw [hm];exact hn.1⟩
  · cases h
 | d+1,n::l,r,h=>by
  rw [zAE] at h
  split at h
  · rename_i hn
    cases hk:zAG (zAE d) n.many.toNat false l with
    | none=>rw [hk] at h;cases h
    | some y =>
     rw [hk] at h;obtain ⟨b',y⟩:=y;have h:y=r:=Option.some.inj h;subst h;obtain ⟨p,e,hp⟩:=zJv (zJp d) _ _ _ _ _ hk;refine ⟨n::p,by rw [e];rfl,fun m hm=>?_⟩;rcases List.mem_cons.1 hm with rfl | hm
     · exact hn.1
     · exact hp m hm
  · cases h
theorem zF5 {v:List Nd} (h:mayV v=true):∀n∈v,ndOk n=true:=by
 obtain ⟨_,_,h3⟩:=zAs.1 h;obtain ⟨p,e,hp⟩:=zJp 12 v [] h3;rw [List.append_nil] at e;rw [e];exact hp
theorem zLF {n:Nd} (h:ndOk n=true) (hk:n.kind≠1):zCT n=true:=by
 unfold ndOk at h;rw [if_neg hk] at h
 split at h
 · simp only [Bool.and_eq_true,List.isEmpty_iff] at h
   obtain ⟨⟨⟨⟨⟨_,hs⟩,ha⟩,_⟩,_⟩,_⟩:=h;unfold zCT;rw [hs,ha,decide_eq_true hk]
   rfl
 · cases h
theorem zQy (v:List Nd) (j:Nat) (t:Nd) (hj:j < v.length) (ha:v[j]'hj=t):(v.drop j).all zCT=(zCT t&&(v.drop (j+1)).all zCT):=by
 rw [List.drop_eq_getElem_cons hj,List.all_cons,ha]
theorem zP7 (A:Option Addr) (n c:Nat) (v:List Nd) (w:World) (hr:RdB NdS w A v) (hn:v.length=n) (hmax:n≤9223372036854775807) (hsm:n≤512→∀m∈v,zAW m) (q:Int) (hq:zEE v=q) :
 Calls prog 18 #[.slice A n c] w fun e w'=>e=.returned (.int .i64 q)∧Below w.heap.size w w':=by
 have HCK:=hI (zGm A n c v w hr hn hmax hsm _ rfl);have HR:=hI hr;have HN:=hI hn
 cases hm:mayV v with
 | false =>
  have e1:zDI v=8:=by unfold zDI;rw [hm];rfl
  obtain rfl:q=8:=by rw [←hq];unfold zEE mayS;rw [hm,Bool.and_false];rfl
  rw [e1] at HCK;clear hr hn hmax hsm hq hm
  go_enter func18,ntmps18
  go_wp2_with (first
   | (go_at_call 36;(with_reducible refine (HCK.out).mono ?_);rintro e1 w1 ⟨rfl,hb1⟩;have HB1:=hI hb1;clear hb1)
   | fail)
  go_ret
  exact ⟨rfl,HB1.out⟩
 | true =>
  have e1:zDI v=0:=by unfold zDI;rw [hm];rfl
  have hn5:n≤512:=by rw [←hn];exact (zAs.1 hm).1
  have bn:(n:Int)≤512:=by omega
  have HSM:=hI (hsm hn5);have HOK:=hI (zF5 hm);obtain ⟨qb,hqb⟩:∃qb,v.all zCT=qb:=⟨_,rfl⟩;have HQ:Hid (q=if qb=true then 0 else 8):=hI (by rw [←hq];unfold zEE mayS;rw [hm,Bool.and_true,hqb]);have HQB:=hI hqb;rw [e1] at HCK;clear hr hn hmax hsm hq hm e1 hqb
  go_enter func18,ntmps18
  go_wp2_with (first
   | (go_at_call 36;(with_reducible refine (HCK.out).mono ?_);rintro e1 w1 ⟨rfl,hb1⟩;have HB1:=hI hb1;clear hb1)
   | fail)
  go_loopg [10] n (fun gg i wr=>∃j:Nat,j+gg=n∧i=.int .i64 j∧(v.drop j).all zCT=qb∧Below w.heap.size w wr)
  case atStart=>exact ⟨0,by omega,rfl,HQB.out,HB1.out⟩
  case round =>
   obtain ⟨j,hjg,rfl,hall,hbw⟩:=hrel;have HBW:=hI hbw
   by_cases hlt:j < n
   · have hjl:j < v.length:=by rw [HN.out];exact hlt
     obtain ⟨b0,off,x,y,z,A1,c1,hA,hbB,hin,c0w,c1w,c2w,c3w,c4w,c5w⟩:=zCL HR.out hjl;have hsm:=HSM.out _ (List.getElem_mem hjl);have hok:=HOK.out _ (List.getElem_mem hjl);obtain ⟨t,ht⟩:∃t,v[j]'hjl=t:=⟨_,rfl⟩;rw [ht] at hin c0w c3w c5w hsm hok;have c0:=(hbw.cell (p:=⟨b0,_,none⟩) hbB).trans c0w;have c1':=(hbw.cell (p:=⟨b0,_,none⟩) hbB).trans c1w;have c2:=(hbw.cell (p:=⟨b0,_,none⟩) hbB).trans c2w;have c3:=(hbw.cell (p:=⟨b0,_,none⟩) hbB).trans c3w;have c4:=(hbw.cell (p:=⟨b0,_,none⟩) hbB).trans c4w;have c5:=(hbw.cell (p:=⟨b0,_,none⟩) hbB).trans c5w;have hal:=zQy v j t hjl ht;rw [hall] at hal;have bj:(0:Int)≤(j:Int)∧(j:Int) < (n:Int):=by omega
     have hnd:NdAt t x y z A1 c1 w:=hin;subst hA
     by_cases hk:t.kind=1
     · obtain ⟨tq,htq⟩:∃tq,zCT t=tq:=⟨_,rfl⟩
       have HMT:Hid (∀W,Below w.heap.size w W→Calls prog 54 #[.agg #[.int .u8 1,.string x,.string y,.slice A1 t.attrs.length c1,.string z,.int .i64 t.many]] W fun e w'=>e=.returned (.bool tq)∧Below W.heap.size W w'):=hI fun W hW=>by
        have:=zLN t x y z A1 c1 W (hnd.on hW) hsm hk tq htq;unfold NdV at this;rw [hk] at this;exact this
       rw [hk] at c0;have c0:wr.cell? ⟨b0,off+j*6,none⟩=some (.int .u8 1):=c0;rw [htq] at hal;obtain ⟨W1,hW1⟩:∃W1,wr.alloc (.cells #[.int .u8 1,.string x,.string y,.slice A1 t.attrs.length c1,.string z,.int .i64 t.many] 42)=W1:=⟨_,rfl⟩;have HA1:Hid (Below w.heap.size w W1):=hI (by rw [←hW1];exact hbw.alloc hbw.size _);have HY1:Hid (W1.heap[wr.heap.size]?=some (.cells #[.int .u8 1,.string x,.string y,.slice A1 t.attrs.length c1,.string z,.int .i64 t.many] 42 (0,0))):=hI (by rw [←hW1];exact heap_alloc_new wr _);have k10:=zAA W1 _ 0 _ _ _ HY1.out;have k11:=zAA W1 _ 1 _ _ _ HY1.out;have k12:=zAA W1 _ 2 _ _ _ HY1.out;have k13:=zAA W1 _ 3 _ _ _ HY1.out;have k14:=zAA W1 _ 4 _ _ _ HY1.out;have k15:=zAA W1 _ 5 _ _ _ HY1.out;have HAL:=hI hal;clear hall hbw hin hnd c0w c1w c2w c3w c4w c5w hal hsm hok ht hk htq hjl hbB
       cases tq with
       | false =>
        obtain rfl:qb=false:=by rw [HAL.out];rfl
        obtain rfl:q=8:=HQ.out
        go_wp2_with (first
         | (refine wpList_store_row rfl _ _ _ rfl wr.heap.size #[.int .u8 1,.string x,.string y,.slice A1 t.attrs.length c1,.string z,.int .i64 t.many] rfl rfl 42 #[.int .u8 0,.string ⟨#[]⟩,.string ⟨#[]⟩,.slice none 0 0,.string ⟨#[]⟩,.int .i64 0] (heap_alloc_new _ _) zBr rfl (by simp [Value.oneCell']) ?_;rw [World.setRow_alloc_new,hW1])
         | (go_at_call 54;(with_reducible refine (HMT.out W1 HA1.out).mono ?_);rintro e2 w2 ⟨rfl,hb2⟩;have HB2:Hid (Below w.heap.size w w2):=hI (zA7 HA1.out hb2);clear hb2)
         | fail)
        go_ret
        exact ⟨rfl,HB2.out⟩
       | true =>
        have HAL2:Hid ((v.drop (j+1)).all zCT=qb):=hI (by rw [HAL.out];rfl)
        go_wp2_with (first
         | (refine wpList_store_row rfl _ _ _ rfl wr.heap.size #[.int .u8 1,.string x,.string y,.slice A1 t.attrs.length c1,.string z,.int .i64 t.many] rfl rfl 42 #[.int .u8 0,.string ⟨#[]⟩,.string ⟨#[]⟩,.slice none 0 0,.string ⟨#[]⟩,.int .i64 0] (heap_alloc_new _ _) zBr rfl (by simp [Value.oneCell']) ?_;rw [World.setRow_alloc_new,hW1])
         | (go_at_call 54;(with_reducible refine (HMT.out W1 HA1.out).mono ?_);rintro e2 w2 ⟨rfl,hb2⟩;have HB2:Hid (Below w.heap.size w w2):=hI (zA7 HA1.out hb2);clear hb2)
         | fail)
        go_roundg (gk - 1)
        case measure=>omega
        case rel=>exact ⟨j+1,by omega,by go_num,HAL2.out,HB2.out⟩
     · have HAL2:Hid ((v.drop (j+1)).all zCT=qb):=hI (by rw [hal,zLF hok hk];rfl)
       have hk2:¬((t.kind:Int)=1):=by omega
       obtain ⟨W1,hW1⟩:∃W1,wr.alloc (.cells #[.int .u8 (t.kind:Int),.string x,.string y,.slice A1 t.attrs.length c1,.string z,.int .i64 t.many] 42)=W1:=⟨_,rfl⟩;have HA1:Hid (Below w.heap.size w W1):=hI (by rw [←hW1];exact hbw.alloc hbw.size _);have HY1:Hid (W1.heap[wr.heap.size]?=some (.cells #[.int .u8 (t.kind:Int),.string x,.string y,.slice A1 t.attrs.length c1,.string z,.int .i64 t.many] 42 (0,0))):=hI (by rw [←hW1];exact heap_alloc_new wr _);have k10:=zAA W1 _ 0 _ _ _ HY1.out;clear hall hbw hin hnd c0w c1w c2w c3w c4w c5w hal hsm hok ht hk hjl hbB
       go_wp2_with (first
        | (refine wpList_store_row rfl _ _ _ rfl wr.heap.size #[.int .u8 (t.kind:Int),.string x,.string y,.slice A1 t.attrs.length c1,.string z,.int .i64 t.many] rfl rfl 42 #[.int .u8 0,.string ⟨#[]⟩,.string ⟨#[]⟩,.slice none 0 0,.string ⟨#[]⟩,.int .i64 0] (heap_alloc_new _ _) zBr rfl (by simp [Value.oneCell']) ?_;rw [World.setRow_alloc_new,hW1])
        | fail)
       go_roundg (gk - 1)
       case measure=>omega
       case rel=>exact ⟨j+1,by omega,by go_num,HAL2.out,HA1.out⟩
   · obtain rfl:j=n:=by omega
     have hjj:¬((j:Int) < (j:Int)):=by omega
     rw [←HN.out,List.drop_length] at hall;obtain rfl:qb=true:=hall.symm;obtain rfl:q=0:=HQ.out;clear hbw hall
     go_wp2_with fail
     go_ret
     exact ⟨rfl,HBW.out⟩
theorem zDy {g:List Nd→(List Nd × Bool) × List Nd}:∀(j:Nat) (l:List Nd),zAb g (j+1) l=(((zAb g j l).1.1++(g (zAb g j l).2).1.1,(zAb g j l).1.2&&(g (zAb g j l).2).1.2),(g (zAb g j l).2).2):=by
 intro j
 induction j with
 | zero=>intro l;simp [zAb]
 | succ j ih =>
  intro l;have h1:∀k,zAb g (k+1) l=(((g l).1.1++(zAb g k (g l).2).1.1,(g l).1.2&&(zAb g k (g l).2).1.2),(zAb g k (g l).2).2):=fun k=>by rw [zAb]
  rw [h1 (j+1),ih,h1 j]
  simp [Bool.and_assoc]
theorem zKJ {g:List Nd→(List Nd × Bool) × List Nd} {j k:Nat} {l:List Nd} (h:(zAb g j l).1.2=false) (hjk:j≤k):(zAb g k l).1.2=false:=by
 obtain ⟨d,rfl⟩:∃d,k=j+d:=⟨k - j,by omega⟩;clear hjk
 induction d with
 | zero=>exact h
 | succ d ih=>rw [←Nat.add_assoc,zDy,ih];rfl
theorem zFf {ε:Type} {f:ε→Nd→Nd × Bool} {dn:ε→Nd→ε} {d:Nat} {e:ε} {n:Nd} {l:List Nd} (hk:n.kind=2):zAK f dn d e (n::l)=(([n],true),l):=by
 cases d with
 | zero=>rw [zAK]
 | succ d=>rw [zAK,if_pos hk]
theorem zFa {ε:Type} {f:ε→Nd→Nd × Bool} {dn:ε→Nd→ε} {d:Nat} {e:ε} {n:Nd} {l:List Nd} (hk:n.kind≠2):zAK f dn (d+1) e (n::l)=(((f e n).1::(zAb (zAK f dn d (dn e n)) n.many.toNat l).1.1,(f e n).2&&(zAb (zAK f dn d (dn e n)) n.many.toNat l).1.2),(zAb (zAK f dn d (dn e n)) n.many.toNat l).2):=by
 rw [zAK,if_neg hk]
theorem zIX {l:List At} (h:(l.map key).Nodup) (hr:∀a∈l,a.space=[]):(l.map (·.name)).Nodup:=by
 unfold List.Nodup at h ⊢;rw [List.pairwise_map] at h ⊢;refine List.Pairwise.imp_of_mem (fun {a b} ha hb hab e=>hab ?_) h;unfold key;rw [hr a ha,hr b hb,e]
def OffN (base:Nat) (V:Value) (w:World) (k:Nat):Prop:=base≤k∧k < w.heap.size∧some k≠V.ownBlock
structure RwSt (clo:Value) (tc:TypeId) (B base gv gl gt:Nat) (A:Option Addr) (c:Nat) (v:List Nd) (L:List NB) (V:Value) (wr:World):Prop where
 hv:wr.heap[gv]?=some (.cells #[.slice A v.length c] 22 (0,0))
 hl:wr.heap[gl]?=some (.cells #[V] 22 (0,0))
 ht:wr.heap[gt]?=some (.cells #[clo] tc (0,0))
 rd:RdS NdS wr (fun b=>b < B) A v
 own:wr.ownsRow base 42 6 V L.length (L.flatMap zAL)
 nd:∀b∈L,NdIn b.n b.x b.y b.z b.A b.c wr (OffN base V wr)
 ord:B≤gv∧gv < gl∧gl < gt∧gt < base
 sz:base≤wr.heap.size
structure FrR (B gl:Nat) (V:Value) (w:World) (V':Value) (w':World):Prop where
 bel:Below B w w'
 blk:∀k,k < w.heap.size→k≠gl→some k≠V.ownBlock→w'.heap[k]?=w.heap[k]?
 lie:∀k,k < w.heap.size→V'.ownBlock=some k→V.ownBlock=some k
theorem FrR.refl (B gl:Nat) (V:Value) (w:World):FrR B gl V w V w:=⟨Below.refl _ _,fun _ _ _ _=>rfl,fun _ _ h=>h⟩
theorem FrR.trans {B gl:Nat} {V V1 V2:Value} {w w1 w2:World} (h:FrR B gl V w V1 w1) (k:FrR B gl V1 w1 V2 w2):FrR B gl V w V2 w2 :=
 ⟨h.bel.trans k.bel,fun q h1 h3 h4=>(k.blk q (Nat.lt_of_lt_of_le h1 h.bel.size) h3 (fun e=>h4 (h.lie q h1 e.symm).symm)).trans (h.blk q h1 h3 h4),fun q h1 h2=>h.lie q h1 (k.lie q (Nat.lt_of_lt_of_le h1 h.bel.size) h2)⟩
theorem FrR.of_below {B gl:Nat} {V:Value} {w w':World} (h:Below w.heap.size w w') (hB:B≤w.heap.size):FrR B gl V w V w':=⟨h.mono hB,fun k hk _ _=>h.block k hk,fun _ _ e=>e⟩
theorem FrR.map {B gl base m:Nat} {V V':Value} {w w':World} {D:List (List UInt8 × AB)} {n:Nat} {xs:List Value} {x:Value} {T:TypeId} (h:FrR B gl V w V' w') (hm:MapD w m D) (ho:w.ownsRow base 42 6 V n xs) (hl:w.heap[gl]?=some (.cells #[x] T (0,0))):MapD w' m D:=by
 obtain ⟨es,cl,hb,he⟩:=hm;refine MapD.kept ⟨es,cl,hb,he⟩ (h.blk m (zAY hb) (fun e=>?_) fun e=>?_)
 · rw [e,hl] at hb;cases hb
 · rcases ho.2 with ⟨e1,_⟩ | ⟨g,cap,cur,e1,_,h2,_⟩
   · rw [e1] at e;cases e
   · rw [e1] at e
     have e:m=g:=by simpa [Value.ownBlock] using e
     rw [e,h2] at hb
     cases hb
section
variable {clo:Value} {tc:TypeId} {B base gv gl gt:Nat} {A:Option Addr} {c:Nat} {v:List Nd} {L:List NB} {V:Value} {wr:World}
theorem RwSt.below (h:RwSt clo tc B base gv gl gt A c v L V wr) {w':World} (k:Below wr.heap.size wr w'):RwSt clo tc B base gv gl gt A c v L V w' :=
 ⟨zAB h.hv k,zAB h.hl k,zAB h.ht k,h.rd.keep (fun _ hb=>hb) fun b o hb=>k.cell (p:=⟨b,o,none⟩) (by have:=h.ord.1;have:=zAY h.hv;show b < _;omega),zAF h.own k (Nat.le_refl _),
  fun b hb=>(h.nd b hb).keep (fun q hq=>⟨hq.1,Nat.lt_of_lt_of_le hq.2.1 k.size,hq.2.2⟩) fun q o hq=>k.cell (p:=⟨q,o,none⟩) hq.2.1,h.ord,Nat.le_trans h.sz k.size⟩
theorem RwSt.push (h:RwSt clo tc B base gv gl gt A c v L V wr) {b:NB} {ob:Obj} {w6:World} {g4 c4:Nat} (hR:NdIn b.n b.x b.y b.z b.A b.c wr (OffN base V wr))
 (hown:w6.ownsRow base 42 6 (.slice (some ⟨g4,0,none⟩) (L.length+1) c4) (L.length+1) (L.flatMap zAL++zAL b)) (hgr:(wr.alloc ob).grownBy w6 V.ownBlock) (hlie:V.ownBlock=some g4∨g4=wr.heap.size+1) :
 RwSt clo tc B base gv gl gt A c v (L++[b]) (.slice (some ⟨g4,0,none⟩) (L.length+1) c4) (w6.setCell ⟨gl,0,none⟩ (.slice (some ⟨g4,0,none⟩) (L.length+1) c4)) ∧
 FrR B gl V wr (.slice (some ⟨g4,0,none⟩) (L.length+1) c4) (w6.setCell ⟨gl,0,none⟩ (.slice (some ⟨g4,0,none⟩) (L.length+1) c4)):=by
 have ho:=h.ord;have hsz:=h.sz;have hs6:=hgr.size;rw [World.size_alloc] at hs6;have hV:∀q,V.ownBlock=some q→base≤q∧q < wr.heap.size:=fun q hq=>h.own.lt q hq
 have stay:∀q,q < wr.heap.size→some q≠V.ownBlock→w6.heap[q]?=wr.heap[q]?:=fun q hq hne=>by
  rw [hgr.block q (by rw [World.size_alloc];omega) hne,Below.heap_alloc _ _ _ hq]
 have low:∀q,q < base→some q≠V.ownBlock:=fun q hq e=>by have:=(hV q e.symm).1;omega
 have all:∀q,q < wr.heap.size→q≠gl→some q≠V.ownBlock→(w6.setCell ⟨gl,0,none⟩ (.slice (some ⟨g4,0,none⟩) (L.length+1) c4)).heap[q]?=wr.heap[q]?:=fun q hq hne hne2=>(zAH w6 gl 0 q _ hne).trans (stay q hq hne2)
 have hlen:(L++[b]).length=L.length+1:=by simp
 have new:∀(b':NB),NdIn b'.n b'.x b'.y b'.z b'.A b'.c wr (OffN base V wr)→NdIn b'.n b'.x b'.y b'.z b'.A b'.c (w6.setCell ⟨gl,0,none⟩ (.slice (some ⟨g4,0,none⟩) (L.length+1) c4)) (OffN base (.slice (some ⟨g4,0,none⟩) (L.length+1) c4) (w6.setCell ⟨gl,0,none⟩ (.slice (some ⟨g4,0,none⟩) (L.length+1) c4))):=fun b' h1 =>
  h1.keep (fun q hq=>⟨hq.1,by have:=hq.2.1;rw [World.size_setCell];omega,fun e2=>by
   have e3:q=g4:=by simpa [Value.ownBlock] using e2
   rcases hlie with e4 | e4
   · exact hq.2.2 (by rw [e4,e3])
   · have:=hq.2.1;omega⟩) fun q o hq=>zCc (all q hq.2.1 (by have:=hq.1;omega) hq.2.2)
 refine ⟨⟨(all gv (by omega) (by omega) (low _ (by omega))).trans h.hv,one_setCell ((stay gl (by omega) (low _ (by omega))).trans h.hl),(all gt (by omega) (by omega) (low _ (by omega))).trans h.ht,
  h.rd.keep (fun _ hb=>hb) fun q o hb=>zCc (all q (by omega) (by omega) (low _ (by omega))),?_,fun b' hb=>?_,h.ord,by rw [World.size_setCell];omega⟩,?_,fun k hk h2 h3=>all k hk h2 h3,fun k hk e=>?_⟩
 · have:=zAf hown gl 0 (by omega) (.slice (some ⟨g4,0,none⟩) (L.length+1) c4)
   rw [hlen,List.flatMap_append]
   simpa using this
 · rcases List.mem_append.1 hb with hb | hb
   · exact new b' (h.nd b' hb)
   · obtain rfl:=List.mem_singleton.1 hb
     exact new _ hR
 · exact (((Below.refl B wr).alloc (by omega) ob).grown hgr (by rw [World.size_alloc];omega) (fun q hq=>by have:=(hV q hq).1;omega)).setCell (p:=⟨gl,0,none⟩) (by show B≤gl;omega) _
 · have e3:g4=k:=by simpa [Value.ownBlock] using e
   rcases hlie with e4 | e4
   · rw [e4,e3]
   · omega
theorem RwSt.read (h:RwSt clo tc B base gv gl gt A c v L V wr):∃A1 c1,V=.slice A1 L.length c1∧RdB NdS wr A1 (L.map NB.n):=by
 obtain ⟨A1,c1,rfl⟩:=zAD h.own;obtain ⟨r1,r2,r3,r4,r5⟩:=RdS.of_own (C:=NdS) (S:=fun b=>b < wr.heap.size) zAL NB.n (fun _=>rfl) (by decide) L (fun b hm=>⟨b.x,b.y,b.z,b.A,b.c,rfl,(h.nd b hm).keep (fun k hk=>hk.2.1) fun _ _ _=>rfl⟩) (fun g hg=>(h.own.lt g hg).2) h.own;exact ⟨A1,c1,rfl,r1⟩
end
end Hx
end Go.Proofs.YtlgppednjkbgiaaGreatDoor
