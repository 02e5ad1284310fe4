/-
  Texts of one seat, put together: MapK, LexR, LexS, LeaA, LeaB, TextN.
-/
import Derived.Test.YtlgppednjkbgiaaGreatDoorMbA
import Derived.Test.YtlgppednjkbgiaaGreatDoorMb02
import Derived.DeepKeys4
import Derived.WideKeyEntry
import Derived.Lib.Strings
import Derived.Deep.LoopGhost
import Derived.Test.YtlgppednjkbgiaaGreatDoorMb01
import Derived.Test.YtlgppednjkbgiaaGreatDoorShelf
import Derived.Lib.IndexLaws
import Derived.RegionTactic
import Derived.Test.YtlgppednjkbgiaaGreatDoorMb00
set_option maxRecDepth 100000
set_option maxHeartbeats 16000000
set_option linter.unusedVariables false
namespace Go.Proofs.YtlgppednjkbgiaaGreatDoor
open Go.RowKit Go.Proofs.Tryz
namespace Hx
open Lx Tr
abbrev Ky:=List UInt8 × List UInt8
def kyV (p:Ky):Value:=.agg #[.string ⟨p.1.toArray⟩,.string ⟨p.2.toArray⟩,.string ⟨#[]⟩]
theorem zOl:laidOutB prog=true:=by kernel_rfl
theorem rowK:(44:TypeId) < prog.types.size:=of_decide_eq_true (by kernel_rfl)
theorem lawK:WideMaps.KeyLaw prog 44:=deep_law_laid zOl (m:=2) (by omega) rowK (by kernel_rfl) (by rw [underlying44])
theorem zSW:prog.keyType 44=true:=by kernel_rfl
def zMt (p:Ky):Prop:=p.1.length≤1000000∧p.2.length≤1000000
theorem zPk {p:Ky} (h:zMt p):∃l,keyOf prog 44 (kyV p)=some l:=by
 obtain ⟨c1,_,_,_,c3,_⟩:=zKL
 have h1:(⟨p.1.toArray⟩:ByteArray).size≤maxLen:=by
  have:=h.1;show p.1.toArray.size≤maxLen;rw [List.size_toArray];unfold maxLen
  omega
 have h2:(⟨p.2.toArray⟩:ByteArray).size≤maxLen:=by
  have:=h.2;show p.2.toArray.size≤maxLen;rw [List.size_toArray];unfold maxLen
  omega
 have hf:(kyV p).formed prog 44=true:=by
  unfold kyV
  simp [Value.formed,underlying44,c3]
 have hk:=zSW;unfold keyOf;rw [underlying44];dsimp only;rw [if_pos (by rw [hk,hf];rfl)];obtain ⟨m,hm⟩:∃m,prog.types.size+1=m+2:=⟨prog.types.size - 1,by have h9:(44:Nat) < prog.types.size:=rowK;omega⟩;rw [hm]
 simp [kyV,Value.cells,c1,c3,Program.keyLits,underlying44,underlying9,h1,h2,show (⟨#[]⟩:ByteArray).size≤maxLen from Nat.zero_le _]
theorem zLa {p q:Ky} (h:kyV p=kyV q):p=q:=by
 unfold kyV at h
 simp at h
 exact Prod.ext h.1 h.2
def MapN (w:World) (b:Nat) (D:List Ky) (m:Nat):Prop:=((∀p∈D,zMt p)∧D.Nodup) ∧
 ∃(es:Array MapEntry) (clock:Nat),w.heap[b]?=some (.map es clock)∧(∀e∈es.toList,e.born < clock)∧(es.toList.map (·.born)).Nodup∧es.toList.map (·.key)=D.map kyV∧∀e∈es.toList,∃c:Nat,e.val=.int .i64 c∧c≤m
def addK (D:List Ky) (p:Ky):List Ky:=if p∈D then D else D++[p]
theorem MapN.kept {w w':World} {b:Nat} {D:List Ky} {m:Nat} (h:MapN w b D m) (hb:w'.heap[b]?=w.heap[b]?):MapN w' b D m:=by
 obtain ⟨h0,es,clock,h1,h2⟩:=h;exact ⟨h0,es,clock,hb.trans h1,h2⟩
structure Only (b:Nat) (w w':World):Prop where
 os:w'.os=w.os
 tape:w'.tape=w.tape
 output:w'.output=w.output
 size:w'.heap.size=w.heap.size
 block:∀k,k≠b→w'.heap[k]?=w.heap[k]?
theorem Only.below {b B:Nat} {w w':World} (h:Only b w w') (hB:B≤b):Below B w w':=⟨h.os,h.tape,h.output,by rw [h.size];exact Nat.le_refl _,fun k hk=>h.block k (by omega)⟩
theorem Only.set {b:Nat} {w:World} {o o':Obj} (hb:w.heap[b]?=some o):Only b w { w with heap:=w.heap.setIfInBounds b o' } :=
 ⟨rfl,rfl,rfl,by simp,fun k hk=>(MapKept.heap_set hb).2 k hk⟩
def T0:TypeId:=215
theorem zJf:prog.underlying T0=some (.map 44 3):=by kernel_rfl
theorem zOs {w:World} {b:Nat} {D:List Ky} {m:Nat} {p:Ky} (h:MapN w b D m) (hp:zMt p) :
 ∃(c st:Nat) (W1 W2:World),c≤m∧(Instr.lookup T0 (.map (some b)) (kyV p) false).run prog w=.ok (.int .i64 c) w ∧
  (Instr.mapEntry T0 (.map (some b)) (kyV p)).run prog w=.ok (.tuple #[.int .i64 c,.int .i64 st]) W1 ∧
  (Instr.lookup T0 (.map (some b)) (kyV p) false).run prog W1=.ok (.int .i64 c) W1 ∧
  (Instr.entryStore T0 (.map (some b)) (.int .i64 st) (.int .i64 ((c:Int)+1))).run prog W1=.ok () W2∧MapN W2 b (addK D p) (m+1)∧Only b w W1∧Only b W1 W2:=by
 obtain ⟨⟨h0,h9⟩,es,clock,hb,h1,h2,h3,h4⟩:=h;obtain ⟨l,hl⟩:=zPk hp
 have hks:∀e∈es.toList,∃l,keyOf prog 44 e.key=some l:=by
  intro e he;have:e.key∈D.map kyV:=by rw [←h3];exact List.mem_map.2 ⟨e,he,rfl⟩
  obtain ⟨q,hq,e2⟩:=List.mem_map.1 this;rw [←e2];exact zPk (h0 q hq)
 have hmem:p∈D↔∃e∈es.toList,e.key=kyV p:=by
  constructor
  · intro hq
    have:kyV p∈es.toList.map (·.key):=by rw [h3];exact List.mem_map.2 ⟨p,hq,rfl⟩
    obtain ⟨e,he,e2⟩:=List.mem_map.1 this;exact ⟨e,he,e2⟩
  · rintro ⟨e,he,e2⟩
    have:e.key∈D.map kyV:=by rw [←h3];exact List.mem_map.2 ⟨e,he,rfl⟩
    obtain ⟨q,hq,e3⟩:=List.mem_map.1 this;rw [←zLa (e3.trans e2)];exact hq
 have look:∀(W:World) (es':Array MapEntry) (cl:Nat) (v:Value) (r:Option (Nat × Value)),W.heap[b]?=some (.map es' cl)→(Instr.findKey 44 (kyV p) es'.toList).run prog W=.ok r W→(match r with | some (_,x)=>x | none=>.int .i64 0)=v →
  (Instr.lookup T0 (.map (some b)) (kyV p) false).run prog W=.ok v W:=by
  intro W es' cl v r hW hf hv;subst hv
  cases r with
  | none=>simp [Instr.lookup,run_underlying zJf,MapKept.run_getObj_map hW,lawK.check W es'.isEmpty hl,hf,Result.andThen]
  | some q=>simp [Instr.lookup,run_underlying zJf,MapKept.run_getObj_map hW,lawK.check W es'.isEmpty hl,hf,Result.andThen]
 rcases lawK.find w hl es.toList hks with ⟨f1,f2⟩ | ⟨j,e0,f1,f2,f3⟩
 · have hnot:p∉D:=fun hq=>by
    obtain ⟨e,he,e2⟩:=hmem.1 hq;exact f2 e he e2
   have ho:=Only.set (o':=.map (es.push ⟨kyV p,.int .i64 0,clock⟩) (clock+1)) hb;obtain ⟨W1,hW1⟩:∃W1,({ w with heap:=w.heap.setIfInBounds b (.map (es.push ⟨kyV p,.int .i64 0,clock⟩) (clock+1)) }:World)=W1:=⟨_,rfl⟩;rw [hW1] at ho
   have hb1:W1.heap[b]?=some (.map (es.push ⟨kyV p,.int .i64 0,clock⟩) (clock+1)):=by
    rw [←hW1];exact (MapKept.heap_set hb).1
   have ho2:=Only.set (o':=.map (es.push ⟨kyV p,.int .i64 (((0:Nat):Int)+1),clock⟩) (clock+1)) hb1
   have hidx:(es.push ⟨kyV p,.int .i64 0,clock⟩).findIdx? (fun e=>((e.born:Nat):Int)==((clock:Nat):Int))=some es.size:=by
    rw [WideElems.findIdx_arr]
    have:=WideElems.findIdx_born (l:=(es.push ⟨kyV p,.int .i64 0,clock⟩).toList) (j:=es.size) (e0:=⟨kyV p,.int .i64 0,clock⟩) (by
     simp only [Array.toList_push,List.map_append,List.map_cons,List.map_nil];refine List.nodup_append.2 ⟨h2,by simp,fun a ha c hc e1=>?_⟩;simp only [List.mem_singleton] at hc;obtain ⟨x,hx,rfl⟩:=List.mem_map.1 ha;have:=h1 x hx
     omega) (by simp)
    exact this
   have hmod:(es.push ⟨kyV p,.int .i64 0,clock⟩).modify es.size (fun e=>{ e with val:=.int .i64 (((0:Nat):Int)+1) })=es.push ⟨kyV p,.int .i64 (((0:Nat):Int)+1),clock⟩:=by
    apply Array.ext';rw [Array.toList_modify,Array.toList_push,Array.toList_push,←Array.length_toList,WideElems.modify_last]
   have hks1:∀e∈(es.push ⟨kyV p,.int .i64 0,clock⟩).toList,∃l,keyOf prog 44 e.key=some l:=by
    intro e he;rw [Array.toList_push] at he;rcases List.mem_append.1 he with he | he
    · exact hks e he
    · rw [List.mem_singleton] at he
      subst he;exact ⟨l,hl⟩
   have hl1:(Instr.lookup T0 (.map (some b)) (kyV p) false).run prog W1=.ok (.int .i64 0) W1:=by
    rcases lawK.find W1 hl _ hks1 with ⟨_,g2⟩ | ⟨j,e0,g1,g2,g3⟩
    · exact absurd rfl (g2 ⟨kyV p,.int .i64 0,clock⟩ (by simp))
    · refine look W1 _ _ _ _ hb1 g1 ?_
      have hm:=List.mem_of_getElem? g2;rw [Array.toList_push] at hm;rcases List.mem_append.1 hm with hm | hm
      · exact absurd g3 (f2 e0 hm)
      · rw [List.mem_singleton] at hm
        rw [hm]
   refine ⟨0,clock,W1,_,Nat.zero_le _,look w es clock _ none hb f1 rfl,?_,hl1,?_,?_,ho,ho2⟩
   · rw [←hW1]
     simp [Instr.mapEntry,run_underlying zJf,MapKept.run_getObj_map hb,lawK.check w false hl,f1,MapKept.run_setObj_map _ hb,Result.andThen,goInt]
   · simp [Instr.entryStore,MapKept.run_getObj_map hb1,asInt,asIntOf,hidx,MapKept.run_setObj_map _ hb1,Result.andThen]
     rw [show (es.push ⟨kyV p,.int .i64 0,clock⟩).modify es.size (fun e=>{ e with val:=.int .i64 1 })=es.push ⟨kyV p,.int .i64 1,clock⟩ from hmod]
   · unfold addK
     rw [if_neg hnot];refine ⟨⟨fun q hq=>?_,List.nodup_append.2 ⟨h9,by simp,fun a ha c hc e=>?_⟩⟩,_,_,(MapKept.heap_set hb1).1,?_,?_,?_,?_⟩
     · rcases List.mem_append.1 hq with hq | hq
       · exact h0 q hq
       · rw [List.mem_singleton] at hq;rw [hq];exact hp
     · rw [List.mem_singleton] at hc
       exact hnot (hc ▸ e ▸ ha)
     · intro e he
       rw [Array.toList_push] at he;rcases List.mem_append.1 he with he | he
       · have:=h1 e he;omega
       · rw [List.mem_singleton] at he;rw [he];exact Nat.lt_succ_self _
     · rw [Array.toList_push,List.map_append]
       refine List.nodup_append.2 ⟨h2,by simp,fun a ha c hc e1=>?_⟩;simp only [List.map_cons,List.map_nil,List.mem_singleton] at hc;obtain ⟨x,hx,rfl⟩:=List.mem_map.1 ha;have:=h1 x hx
       omega
     · rw [Array.toList_push,List.map_append,h3,List.map_append]
       rfl
     · intro e he
       rw [Array.toList_push] at he;rcases List.mem_append.1 he with he | he
       · obtain ⟨c,hc,hcm⟩:=h4 e he
         exact ⟨c,hc,by omega⟩
       · rw [List.mem_singleton] at he
         subst he;exact ⟨1,rfl,by omega⟩
 · have hin:p∈D:=hmem.2 ⟨e0,List.mem_of_getElem? f2,f3⟩
   obtain ⟨c,hc,hcm⟩:=h4 e0 (List.mem_of_getElem? f2);have hj:es[j]?=some e0:=by simpa using f2
   have hsame:es.modify j (fun e=>{ e with key:=kyV p })=es:=by
    apply Array.ext';rw [Array.toList_modify,ChangeMaps.modify_eq_set _ _ _ _ f2];have:({ e0 with key:=kyV p }:MapEntry)=e0:=by rw [←f3]
    rw [this];exact WideElems.set_self _ _ _ f2
   have ho:=Only.set (o':=.map es clock) hb;obtain ⟨W1,hW1⟩:∃W1,({ w with heap:=w.heap.setIfInBounds b (.map es clock) }:World)=W1:=⟨_,rfl⟩;rw [hW1] at ho
   have hb1:W1.heap[b]?=some (.map es clock):=by
    rw [←hW1];exact (MapKept.heap_set hb).1
   have ho2:=Only.set (o':=.map (es.modify j (fun e=>{ e with val:=.int .i64 ((c:Int)+1) })) clock) hb1
   have hidx:es.findIdx? (fun e=>((e.born:Nat):Int)==((e0.born:Nat):Int))=some j:=by
    rw [WideElems.findIdx_arr];exact WideElems.findIdx_born h2 f2
   have hl1:(Instr.lookup T0 (.map (some b)) (kyV p) false).run prog W1=.ok (.int .i64 c) W1:=by
    rcases lawK.find W1 hl _ hks with ⟨_,g2⟩ | ⟨j',e',g1,g2,g3⟩
    · exact absurd f3 (g2 e0 (List.mem_of_getElem? f2))
    · refine look W1 _ _ _ _ hb1 g1 ?_
      obtain ⟨hjl,hje⟩:=List.getElem?_eq_some_iff.1 f2;obtain ⟨hjl',hje'⟩:=List.getElem?_eq_some_iff.1 g2
      have hnd:(es.toList.map (·.key)).Nodup:=by
       rw [h3];exact List.Pairwise.map _ (fun a b hab e=>hab (zLa e)) h9
      have hjj:j'=j:=by
       refine (List.getElem_inj (h₀:=by rw [List.length_map];exact hjl') (h₁:=by rw [List.length_map];exact hjl) hnd).1 ?_;rw [List.getElem_map,List.getElem_map,hje,hje',f3,g3]
      subst hjj;have g4:e0=e':=Option.some.inj (f2.symm.trans g2);rw [←g4];exact hc
   refine ⟨c,e0.born,W1,_,hcm,look w es clock _ _ hb f1 hc,?_,hl1,?_,?_,ho,ho2⟩
   · rw [←hW1]
     simp [Instr.mapEntry,run_underlying zJf,MapKept.run_getObj_map hb,lawK.check w false hl,f1,hj,f3,lawK.stays w hl,hsame,MapKept.run_setObj_map _ hb,Result.andThen,goInt,hc]
   · simp [Instr.entryStore,MapKept.run_getObj_map hb1,asInt,asIntOf,hidx,MapKept.run_setObj_map _ hb1,Result.andThen]
   · unfold addK
     rw [if_pos hin]
     have hset:(es.modify j (fun e=>{ e with val:=.int .i64 ((c:Int)+1) })).toList=es.toList.set j { e0 with val:=.int .i64 ((c:Int)+1) }:=by
      rw [Array.toList_modify,ChangeMaps.modify_eq_set _ _ _ _ f2]
     refine ⟨⟨h0,h9⟩,_,_,(MapKept.heap_set hb1).1,?_,?_,?_,?_⟩
     · intro e he
       rw [hset] at he;rcases List.mem_or_eq_of_mem_set he with he | he
       · exact h1 e he
       · rw [he];exact h1 e0 (List.mem_of_getElem? f2)
     · rw [hset,List.map_set,WideElems.set_self _ _ _ (by rw [List.getElem?_map,f2];rfl)]
       exact h2
     · rw [hset,List.map_set,WideElems.set_self _ _ _ (by rw [List.getElem?_map,f2];rfl)]
       exact h3
     · intro e he
       rw [hset] at he;rcases List.mem_or_eq_of_mem_set he with he | he
       · obtain ⟨c',hc',hcm'⟩:=h4 e he
         exact ⟨c',hc',by omega⟩
       · rw [he]
         exact ⟨c+1,by simp,by omega⟩
end Hx
namespace Hx
open Lx
theorem ba_l (s:ByteArray):s.data.toList.length=s.size:=by cases s;simp [ByteArray.size]
theorem at_l (s:ByteArray) (k:Nat) (h:k < s.size):s.data.toList[k]'(by rw [ba_l];exact h)=s[k]'h:=by cases s;rfl
theorem ba_x {s t:ByteArray} (h:s.data.toList=t.data.toList):s=t:=by
 cases s;cases t
 simpa using h
theorem zE4 (s:ByteArray):s.toList.isEmpty=decide (s.size=0):=by
 rw [ByteArray.toList_eq,Bool.eq_iff_iff,List.isEmpty_iff,decide_eq_true_eq,←ba_l]
 constructor
 · intro e;rw [e];rfl
 · exact List.eq_nil_of_length_eq_zero
theorem zAh (s:ByteArray) (a b:Nat) (h:b≤s.size):(s.extract a b).data.toList=(s.data.toList.drop a).take (b - a):=Lib.extract_data s a b
end Hx
namespace Lx
open Tx Nmb Es
def zBg:List Pr→List Pr→Bool
 | _,[]=>true
 | acc,p::r=> !hasL acc p.name&&zBg (acc++[p]) r
def dis:List Pr→List Pr→Nat
 | _,[]=>0
 | acc,p::r=>(if hasL acc p.name then 0 else 1)+dis (acc++[p]) r
theorem zOi:∀(l acc:List Pr) (p:Pr),dis acc (l++[p])=dis acc l+(if hasL (acc++l) p.name then 0 else 1):=by
 intro l
 induction l with
 | nil=>intro acc p;simp [dis]
 | cons q l ih =>
  intro acc p;rw [List.cons_append];show (if hasL acc q.name then 0 else 1)+dis (acc++[q]) (l++[p])=((if hasL acc q.name then 0 else 1)+dis (acc++[q]) l)+_;rw [ih,List.append_assoc,List.singleton_append,Nat.add_assoc]
theorem zRM:∀(l acc:List Pr),dis acc l≤l.length∧(dis acc l=l.length↔zBg acc l=true):=by
 intro l
 induction l with
 | nil=>intro acc;simp [dis,zBg]
 | cons q l ih =>
  intro acc;obtain ⟨h1,h2⟩:=ih (acc++[q]);unfold dis zBg;rw [List.length_cons]
  cases hh:hasL acc q.name
  · simp
    refine ⟨by omega,?_⟩;rw [←h2]
    omega
  · simp
    omega
theorem zGy:∀(l acc:List Pr),zB5 acc l=(zBg acc l&&l.all fun p=>zAP p.name&&okT p.value):=by
 intro l
 induction l with
 | nil=>intro acc;rfl
 | cons p l ih =>
  intro acc;unfold zB5 zBg;rw [ih,List.all_cons]
  cases zAP p.name <;> cases hasL acc p.name <;> cases okT p.value <;> simp
def tagN:Nat→List UInt8→Option (Bool × List Pr × List UInt8)
 | 0,_=>none
 | f+1,l=>match l.dropWhile blk with
  | []=>none
  | c::x=>if c=62 then some (false,[],x) else if c=47∧x.head?=some 62 then some (true,[],x.tail) else
   match zB2 (c::x) with
   | none=>none
   | some (p,y)=>if l.length=(c::x).length then none else (tagN f y).map fun q=>(q.1,p::q.2.1,q.2.2)
theorem zH0:∀(f g:Nat) (l:List UInt8),l.length < f→l.length < g→tagN f l=tagN g l:=by
 intro f
 induction f with
 | zero=>intro g l h;omega
 | succ f ih =>
  intro g l h1 h2
  cases g with
  | zero=>omega
  | succ g =>
   unfold tagN;have hd:=zAJ blk l
   cases hb:l.dropWhile blk with
   | nil=>rfl
   | cons c x =>
    dsimp only
    split
    · rfl
    split
    · rfl
    cases ha:zB2 (c::x) with
    | none=>rfl
    | some q =>
     obtain ⟨p,y⟩:=q;have hl:=zB0 ha;rw [hb] at hd;dsimp only
     split
     · rfl
     rw [ih g y (by omega) (by omega)]
theorem zRJ:∀(f:Nat) (acc:List Pr) (l:List UInt8),tagF f acc l=match tagN f l with
 | none=>none
 | some (b,m,x)=>if zBg acc m=true then some (b,acc++m,x) else none:=by
 intro f
 induction f with
 | zero=>intro acc l;rfl
 | succ f ih =>
  intro acc l;unfold tagF tagN
  cases hb:l.dropWhile blk with
  | nil=>rfl
  | cons c x =>
   dsimp only
   by_cases h1:c=62
   · rw [if_pos h1,if_pos h1]
     simp [zBg]
   rw [if_neg h1,if_neg h1]
   by_cases h2:c=47∧x.head?=some 62
   · rw [if_pos h2,if_pos h2]
     simp [zBg]
   rw [if_neg h2,if_neg h2]
   cases ha:zB2 (c::x) with
   | none=>rfl
   | some q =>
    obtain ⟨p,y⟩:=q;dsimp only
    by_cases h3:l.length=(c::x).length
    · rw [if_pos (.inl h3),if_pos h3]
    · rw [if_neg h3]
      by_cases h4:hasL acc p.name=true
      · rw [if_pos (.inr h4)]
        cases tagN f y with
        | none=>rfl
        | some r =>
         obtain ⟨b,m,z⟩:=r
         simp [zBg,h4]
      · rw [if_neg (by rintro (h | h);exact h3 h;exact h4 h),ih]
        cases tagN f y with
        | none=>rfl
        | some r =>
         obtain ⟨b,m,z⟩:=r
         simp [zBg,h4]
def tagH (l:List UInt8):Option (Bool × List Pr × List UInt8):=tagN (l.length+1) l
theorem zM1 {l x:List UInt8} (h:l.dropWhile blk=62::x):tagH l=some (false,[],x):=by unfold tagH tagN;rw [h];simp
theorem zMH {l x:List UInt8} (h:l.dropWhile blk=47::62::x):tagH l=some (true,[],x):=by unfold tagH tagN;rw [h];simp
def zKH (l:List UInt8):Prop:=l.head?≠some 62∧l.take 2≠[47,62]
theorem zEl {c:UInt8} {x:List UInt8} (h:zKH (c::x)):c≠62∧¬(c=47∧x.head?=some 62):=by
 obtain ⟨h1,h2⟩:=h;refine ⟨fun e=>h1 (by rw [e];rfl),?_⟩;rintro ⟨rfl,h4⟩
 cases x with
 | nil=>cases h4
 | cons d x=>injection h4 with h4;exact h2 (by rw [h4];rfl)
theorem zHP {l:List UInt8} (h:zKH (l.dropWhile blk)) (h2:(l.dropWhile blk).length=l.length∨zB2 (l.dropWhile blk)=none):tagH l=none:=by
 unfold tagH tagN
 cases hb:l.dropWhile blk with
 | nil=>rfl
 | cons c x =>
  rw [hb] at h h2;obtain ⟨h3,h4⟩:=zEl h;dsimp only;rw [if_neg h3,if_neg h4];rcases h2 with h2 | h2
  · cases zB2 (c::x) with
    | none=>rfl
    | some q=>dsimp only;rw [if_pos h2.symm]
  · rw [h2]
theorem zLv {l y:List UInt8} {p:Pr} (h:zKH (l.dropWhile blk)) (h2:(l.dropWhile blk).length≠l.length) (ha:zB2 (l.dropWhile blk)=some (p,y)):tagH l=(tagH y).map fun q=>(q.1,p::q.2.1,q.2.2):=by
 have hd:=zAJ blk l;have hl:=zB0 ha;unfold tagH
 conv=>lhs;unfold tagN
 cases hb:l.dropWhile blk with
 | nil=>rw [hb] at ha;cases ha
 | cons c x =>
  rw [hb] at h h2 ha hd hl;obtain ⟨h3,h4⟩:=zEl h;dsimp only;rw [if_neg h3,if_neg h4,ha];dsimp only;rw [if_neg (fun e=>h2 e.symm),zH0 l.length (y.length+1) y (by omega) (by omega)]
theorem zRI {l:List UInt8} (h47:l.head?≠some 47) (hw:zBK l≠[]):tagL l=match tagH (l.drop (zBK l).length) with
 | none=>none
 | some (b,m,x)=>if zBg [] m=true then some (⟨if b then 3 else 1,zBK l,m,[]⟩,x) else none:=by
 unfold tagL tagH;rw [if_neg h47,if_neg hw,zRJ,zH0 (l.length+1) ((l.drop (zBK l).length).length+1) _ (by rw [List.length_drop];omega) (by omega)]
 cases tagN ((l.drop (zBK l).length).length+1) (l.drop (zBK l).length) with
 | none=>rfl
 | some r =>
  obtain ⟨b,m,x⟩:=r;dsimp only
  by_cases hf:zBg [] m=true
  · rw [if_pos hf,if_pos hf]
    simp
  · rw [if_neg hf,if_neg hf]
    rfl
theorem zQk {l:List UInt8} (h47:l.head?≠some 47) (hw:zBK l=[]):tagL l=none:=by unfold tagL;rw [if_neg h47,if_pos hw]
theorem zQt {l:List UInt8}:tagL (47::l)=zDl l:=by unfold tagL;simp
theorem zJd (p:UInt8→Bool) (l:List UInt8):l.drop (l.takeWhile p).length=l.dropWhile p∧l.take (l.takeWhile p).length=l.takeWhile p:=by
 induction l with
 | nil=>simp
 | cons c l ih =>
  by_cases h:p c=true
  · rw [List.takeWhile_cons_of_pos h,List.dropWhile_cons_of_pos h,List.length_cons,List.drop_succ_cons,List.take_succ_cons,ih.1,ih.2]
    exact ⟨rfl,rfl⟩
  · rw [List.takeWhile_cons_of_neg h,List.dropWhile_cons_of_neg h]
    exact ⟨rfl,rfl⟩
theorem zC7 (l:List UInt8):(zAP (l.takeWhile wch)=true→zBK l=l.takeWhile wch∧zBK l≠[]∧l.drop (zBK l).length=l.dropWhile wch)∧(zAP (l.takeWhile wch)=false→zBK l=[]):=by
 refine ⟨fun h=>?_,fun h=>?_⟩
 · have e:zBK l=l.takeWhile wch:=by unfold zBK;rw [if_pos h]
   refine ⟨e,by rw [e];exact zDr h,?_⟩;rw [e];exact (zJd wch l).1
 · unfold zBK
   rw [if_neg (by rw [h];decide)]
def ne (q c:UInt8):Bool:=c != q
theorem zNe (q c:UInt8):ne q c=true↔c≠q:=by unfold ne;simp
theorem zP4 (q:UInt8) (l:List UInt8):cutQ q l=match l.dropWhile (ne q) with | []=>none | _::y=>some (l.takeWhile (ne q),y):=by
 obtain ⟨h1,h2,h3⟩:=zAU (ne q) l
 cases hd:l.dropWhile (ne q) with
 | nil =>
  rw [hd,List.append_nil] at h1;dsimp only;refine zLY fun hm=>?_
  rw [h1] at hm;exact (zNe q q).1 (h2 q hm) rfl
 | cons c y =>
  have hc:=h3 c y hd;have:c=q:=by unfold ne at hc;simpa using hc
  subst this;rw [hd] at h1;dsimp only
  conv=>lhs;rw [h1]
  refine zMe y fun hm=>(zNe c c).1 (h2 c hm) rfl
theorem zRb:txt=ne 60:=rfl
end Lx
namespace Hx
open Lx
theorem zEW {c:UInt8}:∀{a a' b b':List UInt8},a++c::b=a'++c::b'→c∉a→c∉a'→a=a'∧b=b':=by
 intro a
 induction a with
 | nil =>
  intro a' b b' h _ h2
  cases a' with
  | nil=>injection h with _ h;exact ⟨rfl,h⟩
  | cons d a'=>injection h with h _;exact absurd (by rw [h];simp) h2
 | cons d a ih =>
  intro a' b b' h h1 h2
  cases a' with
  | nil=>injection h with h _;exact absurd (by rw [←h];simp) h1
  | cons d' a' =>
   injection h with e h;rw [List.mem_cons,not_or] at h1 h2;obtain ⟨q1,q2⟩:=ih h h1.2 h2.2;exact ⟨by rw [e,q1],q2⟩
theorem zBR (l:List UInt8) (c:UInt8):(Lib.indexByte l c= -1∧c∉l)∨∃i:Nat,Lib.indexByte l c=(i:Int)∧i < l.length∧l=l.take i++c::l.drop (i+1)∧c∉l.take i:=by
 have hge:=Lib.indexByte_ge l c
 by_cases h:Lib.indexByte l c= -1
 · left
   refine ⟨h,fun hc=>?_⟩;obtain ⟨k,hk⟩:=List.mem_iff_getElem?.1 hc;exact Lib.indexByte_none h k hk
 · right
   obtain ⟨i,hi⟩:∃i:Nat,Lib.indexByte l c=(i:Int):=⟨(Lib.indexByte l c).toNat,by omega⟩;obtain ⟨h1,h2⟩:=Lib.indexByte_some hi;obtain ⟨hlt,hc⟩:=List.getElem?_eq_some_iff.1 h1;refine ⟨i,hi,hlt,?_,fun hm=>?_⟩
   · conv=>lhs;rw [←List.take_append_drop i l]
     rw [List.drop_eq_getElem_cons hlt,hc]
   · obtain ⟨k,hk⟩:=List.mem_iff_getElem?.1 hm
     rw [List.getElem?_take] at hk
     split at hk
     · exact h2 k (by assumption) hk
     · cases hk
theorem zD6 {l:List UInt8} (h:(58:UInt8)∈l):(cutC l).isSome=true:=by
 induction l with
 | nil=>cases h
 | cons c l ih =>
  show (if c=58 then _ else _:Option _).isSome=true
  split
  · rfl
  · rename_i hc
    rcases List.mem_cons.1 h with e | e
    · exact absurd e.symm hc
    · show (Option.map _ (cutC l)).isSome=true
      rw [Option.isSome_map];exact ih e
def zAv (p r:ByteArray) (b:Bool) (w:World) (e:Ending) (w':World):Prop:=e=.returned (.tuple #[.string p,.string r,.bool b])∧Below w.heap.size w w'
theorem zR7 (s:ByteArray) (q:Int) (w:World) (h:Lib.indexByte s.data.toList 58=q) :
 Calls prog 187 #[.string s,.int .u8 ↑((⟨#[58]⟩:ByteArray)[0]'(by decide)).toNat] w fun e w'=>e=.returned (.int .i64 q)∧w=w':=by
 refine (Tryz.stringslite_IndexByte s _ w).mono fun e w' ⟨h1,h2⟩=>⟨?_,h2.symm⟩
 rw [h1,←h]
 rfl
theorem zG8 (s:ByteArray) (q:Int) (w:World) (h:Lib.indexByte s.data.toList 58=q) :
 Calls prog 159 #[.string s,.string ⟨#[58]⟩] w fun e w'=>e=.returned (.int .i64 q)∧w=w':=by
 have H:=hI h
 cases hq:([58]==s.toList) with
 | true =>
  obtain rfl:(0:Int)=q:=by
   have e:s.data.toList=[58]:=by
    rw [beq_iff_eq,ByteArray.toList_eq] at hq;exact hq.symm
   rw [←h,e]
   rfl
  clear h
  go_enter func159,ntmps159
  go_wp2_with fail
  go_ret
  exact ⟨rfl,rfl⟩
 | false =>
  clear h
  go_enter func159,ntmps159
  go_wp2_with (first
   | (go_at_call 187;(with_reducible refine (zR7 s q w H.out).mono ?_);rintro e w1 ⟨rfl,rfl⟩)
   | fail)
  go_ret
  exact ⟨rfl,rfl⟩
theorem zIG (s:ByteArray) (w:World) (h:Lib.indexByte s.data.toList 58= -1) :
 Calls prog 116 #[.string s,.string ⟨#[58]⟩] w (zAv s ⟨#[]⟩ false w):=by
 have H:=hI h;clear h
 go_enter func116,ntmps116
 go_wp2_with (first
  | (go_at_call 159;(with_reducible refine (zG8 s (-1) w H.out).mono ?_);rintro e w1 ⟨rfl,rfl⟩)
  | fail)
 go_ret3
 exact ⟨rfl,Below.refl _ _⟩
theorem zGj (s p r:ByteArray) (i j n:Nat) (w:World) (hm:s.size≤1000000) (h:Lib.indexByte s.data.toList 58=(i:Int)) (hi:i < s.size) (hj:i+1=j) (hn:s.size=n) (hp:s.extract 0 i=p) (hr:s.extract j n=r) :
 Calls prog 116 #[.string s,.string ⟨#[58]⟩] w (zAv p r true w):=by
 have H:=hI h;have b1:(0:Int)≤(i:Int)∧(i:Int)≤(s.size:Int):=by omega
 have b2:(0:Int)≤(j:Int)∧(j:Int)≤(s.size:Int):=by omega
 have s1:IntKind.i64.wrap ((i:Int)+1)=(j:Int):=by rw [IntWalk.i64_in _ (by omega)];omega
 have d1:decide ((0:Int)≤(i:Int))=true:=by simp
 rw [←hn] at hr;clear h hm hi hj hn
 go_enter func116,ntmps116
 go_wp2_with (first
  | (go_at_call 159;(with_reducible refine (zG8 s (i:Int) w H.out).mono ?_);rintro e w1 ⟨rfl,rfl⟩)
  | fail)
 go_region
 go_wp2_with fail
 go_ret3
 exact ⟨rfl,(show Below w.heap.size w w.drew from ⟨rfl,rfl,rfl,Nat.le_refl _,fun _ _=>rfl⟩)⟩
theorem zKT (s:ByteArray) (w:World) (h:Lib.indexByte s.data.toList 58= -1) :
 Calls prog 82 #[.string s,.string ⟨#[58]⟩] w (zAv s ⟨#[]⟩ false w):=by
 have H:=hI h;clear h
 go_enter func82,ntmps82
 go_wp2_with (first
  | (go_at_call 116;(with_reducible refine (zIG s w H.out).mono ?_);rintro e w1 ⟨rfl,hb1⟩)
  | fail)
 go_ret3
 exact ⟨rfl,hb1⟩
theorem zIp (s p r:ByteArray) (i j n:Nat) (w:World) (hm:s.size≤1000000) (h:Lib.indexByte s.data.toList 58=(i:Int)) (hi:i < s.size) (hj:i+1=j) (hn:s.size=n) (hp:s.extract 0 i=p) (hr:s.extract j n=r) :
 Calls prog 82 #[.string s,.string ⟨#[58]⟩] w (zAv p r true w):=by
 have H:Hid (Calls prog 116 #[.string s,.string ⟨#[58]⟩] w (zAv p r true w)):=zGj s p r i j n w hm h hi hj hn hp hr;clear hm h hi hj hn hp hr
 go_enter func82,ntmps82
 go_wp2_with (first
  | (go_at_call 116;(with_reducible refine (H.out).mono ?_);rintro e w1 ⟨rfl,hb1⟩)
  | fail)
 go_ret3
 exact ⟨rfl,hb1⟩
theorem zEC (s:ByteArray) (w:World) (h:(58:UInt8)∉s.data.toList) :
 Calls prog 82 #[.string s,.string ⟨#[58]⟩] w (zAv s ⟨#[]⟩ false w):=by
 rcases zBR s.data.toList 58 with ⟨h1,_⟩ | ⟨i,_,hi,e,_⟩
 · exact zKT s w h1
 · exfalso;apply h;rw [e];simp
theorem zEF (s p r:ByteArray) (w:World) (hm:s.size≤1000000) (h:s.data.toList=p.data.toList++58::r.data.toList) (hp:(58:UInt8)∉p.data.toList) :
 Calls prog 82 #[.string s,.string ⟨#[58]⟩] w (zAv p r true w):=by
 rcases zBR s.data.toList 58 with ⟨_,h1⟩ | ⟨i,h1,hi,e,hn⟩
 · exfalso;apply h1;rw [h];simp
 · have hsz:=ba_l s
   obtain ⟨e1,e2⟩:=zEW (e.symm.trans h) hn hp;refine zIp s p r i (i+1) s.size w hm h1 (by rw [←hsz];exact hi) rfl rfl ?_ ?_
   · apply ba_x
     rw [zAh s 0 i (by rw [←hsz];omega),List.drop_zero,Nat.sub_zero,e1]
   · apply ba_x
     rw [zAh s (i+1) s.size (Nat.le_refl _),List.take_of_length_le (by rw [List.length_drop,hsz];omega),e2]
theorem zRp (s:ByteArray) (q:Int) (w:World) (h:Lib.indexByte s.data.toList 60=q) :
 Calls prog 187 #[.string s,.int .u8 ↑((⟨#[60]⟩:ByteArray)[0]'(by decide)).toNat] w fun e w'=>e=.returned (.int .i64 q)∧w=w':=by
 refine (Tryz.stringslite_IndexByte s _ w).mono fun e w' ⟨h1,h2⟩=>⟨?_,h2.symm⟩
 rw [h1,←h]
 rfl
theorem zHk (s:ByteArray) (q:Int) (w:World) (h:Lib.indexByte s.data.toList 60=q) :
 Calls prog 159 #[.string s,.string ⟨#[60]⟩] w fun e w'=>e=.returned (.int .i64 q)∧w=w':=by
 have H:=hI h
 cases hq:([60]==s.toList) with
 | true =>
  obtain rfl:(0:Int)=q:=by
   have e:s.data.toList=[60]:=by
    rw [beq_iff_eq,ByteArray.toList_eq] at hq;exact hq.symm
   rw [←h,e]
   rfl
  clear h
  go_enter func159,ntmps159
  go_wp2_with fail
  go_ret
  exact ⟨rfl,rfl⟩
 | false =>
  clear h
  go_enter func159,ntmps159
  go_wp2_with (first
   | (go_at_call 187;(with_reducible refine (zRp s q w H.out).mono ?_);rintro e w1 ⟨rfl,rfl⟩)
   | fail)
  go_ret
  exact ⟨rfl,rfl⟩
theorem zIA (s:ByteArray) (w:World) (h:Lib.indexByte s.data.toList 60= -1) :
 Calls prog 116 #[.string s,.string ⟨#[60]⟩] w (zAv s ⟨#[]⟩ false w):=by
 have H:=hI h;clear h
 go_enter func116,ntmps116
 go_wp2_with (first
  | (go_at_call 159;(with_reducible refine (zHk s (-1) w H.out).mono ?_);rintro e w1 ⟨rfl,rfl⟩)
  | fail)
 go_ret3
 exact ⟨rfl,Below.refl _ _⟩
theorem zGQ (s p r:ByteArray) (i j n:Nat) (w:World) (hm:s.size≤1000000) (h:Lib.indexByte s.data.toList 60=(i:Int)) (hi:i < s.size) (hj:i+1=j) (hn:s.size=n) (hp:s.extract 0 i=p) (hr:s.extract j n=r) :
 Calls prog 116 #[.string s,.string ⟨#[60]⟩] w (zAv p r true w):=by
 have H:=hI h;have b1:(0:Int)≤(i:Int)∧(i:Int)≤(s.size:Int):=by omega
 have b2:(0:Int)≤(j:Int)∧(j:Int)≤(s.size:Int):=by omega
 have s1:IntKind.i64.wrap ((i:Int)+1)=(j:Int):=by rw [IntWalk.i64_in _ (by omega)];omega
 have d1:decide ((0:Int)≤(i:Int))=true:=by simp
 rw [←hn] at hr;clear h hm hi hj hn
 go_enter func116,ntmps116
 go_wp2_with (first
  | (go_at_call 159;(with_reducible refine (zHk s (i:Int) w H.out).mono ?_);rintro e w1 ⟨rfl,rfl⟩)
  | fail)
 go_region
 go_wp2_with fail
 go_ret3
 exact ⟨rfl,(show Below w.heap.size w w.drew from ⟨rfl,rfl,rfl,Nat.le_refl _,fun _ _=>rfl⟩)⟩
theorem zLJ (s:ByteArray) (w:World) (h:Lib.indexByte s.data.toList 60= -1) :
 Calls prog 82 #[.string s,.string ⟨#[60]⟩] w (zAv s ⟨#[]⟩ false w):=by
 have H:=hI h;clear h
 go_enter func82,ntmps82
 go_wp2_with (first
  | (go_at_call 116;(with_reducible refine (zIA s w H.out).mono ?_);rintro e w1 ⟨rfl,hb1⟩)
  | fail)
 go_ret3
 exact ⟨rfl,hb1⟩
theorem zJA (s p r:ByteArray) (i j n:Nat) (w:World) (hm:s.size≤1000000) (h:Lib.indexByte s.data.toList 60=(i:Int)) (hi:i < s.size) (hj:i+1=j) (hn:s.size=n) (hp:s.extract 0 i=p) (hr:s.extract j n=r) :
 Calls prog 82 #[.string s,.string ⟨#[60]⟩] w (zAv p r true w):=by
 have H:Hid (Calls prog 116 #[.string s,.string ⟨#[60]⟩] w (zAv p r true w)):=zGQ s p r i j n w hm h hi hj hn hp hr;clear hm h hi hj hn hp hr
 go_enter func82,ntmps82
 go_wp2_with (first
  | (go_at_call 116;(with_reducible refine (H.out).mono ?_);rintro e w1 ⟨rfl,hb1⟩)
  | fail)
 go_ret3
 exact ⟨rfl,hb1⟩
theorem zHH (s:ByteArray) (w:World) (h:(60:UInt8)∉s.data.toList) :
 Calls prog 82 #[.string s,.string ⟨#[60]⟩] w (zAv s ⟨#[]⟩ false w):=by
 rcases zBR s.data.toList 60 with ⟨h1,_⟩ | ⟨i,_,hi,e,_⟩
 · exact zLJ s w h1
 · exfalso;apply h;rw [e];simp
theorem zHq (s p r:ByteArray) (w:World) (hm:s.size≤1000000) (h:s.data.toList=p.data.toList++60::r.data.toList) (hp:(60:UInt8)∉p.data.toList) :
 Calls prog 82 #[.string s,.string ⟨#[60]⟩] w (zAv p r true w):=by
 rcases zBR s.data.toList 60 with ⟨_,h1⟩ | ⟨i,h1,hi,e,hn⟩
 · exfalso;apply h1;rw [h];simp
 · have hsz:=ba_l s
   obtain ⟨e1,e2⟩:=zEW (e.symm.trans h) hn hp;refine zJA s p r i (i+1) s.size w hm h1 (by rw [←hsz];exact hi) rfl rfl ?_ ?_
   · apply ba_x
     rw [zAh s 0 i (by rw [←hsz];omega),List.drop_zero,Nat.sub_zero,e1]
   · apply ba_x
     rw [zAh s (i+1) s.size (Nat.le_refl _),List.take_of_length_le (by rw [List.length_drop,hsz];omega),e2]
theorem zSA (s:ByteArray) (q:Int) (w:World) (h:Lib.indexByte s.data.toList 34=q) :
 Calls prog 187 #[.string s,.int .u8 ↑((⟨#[34]⟩:ByteArray)[0]'(by decide)).toNat] w fun e w'=>e=.returned (.int .i64 q)∧w=w':=by
 refine (Tryz.stringslite_IndexByte s _ w).mono fun e w' ⟨h1,h2⟩=>⟨?_,h2.symm⟩
 rw [h1,←h]
 rfl
theorem zHJ (s:ByteArray) (q:Int) (w:World) (h:Lib.indexByte s.data.toList 34=q) :
 Calls prog 159 #[.string s,.string ⟨#[34]⟩] w fun e w'=>e=.returned (.int .i64 q)∧w=w':=by
 have H:=hI h
 cases hq:([34]==s.toList) with
 | true =>
  obtain rfl:(0:Int)=q:=by
   have e:s.data.toList=[34]:=by
    rw [beq_iff_eq,ByteArray.toList_eq] at hq;exact hq.symm
   rw [←h,e]
   rfl
  clear h
  go_enter func159,ntmps159
  go_wp2_with fail
  go_ret
  exact ⟨rfl,rfl⟩
 | false =>
  clear h
  go_enter func159,ntmps159
  go_wp2_with (first
   | (go_at_call 187;(with_reducible refine (zSA s q w H.out).mono ?_);rintro e w1 ⟨rfl,rfl⟩)
   | fail)
  go_ret
  exact ⟨rfl,rfl⟩
theorem zHI (s:ByteArray) (w:World) (h:Lib.indexByte s.data.toList 34= -1) :
 Calls prog 116 #[.string s,.string ⟨#[34]⟩] w (zAv s ⟨#[]⟩ false w):=by
 have H:=hI h;clear h
 go_enter func116,ntmps116
 go_wp2_with (first
  | (go_at_call 159;(with_reducible refine (zHJ s (-1) w H.out).mono ?_);rintro e w1 ⟨rfl,rfl⟩)
  | fail)
 go_ret3
 exact ⟨rfl,Below.refl _ _⟩
theorem zFy (s p r:ByteArray) (i j n:Nat) (w:World) (hm:s.size≤1000000) (h:Lib.indexByte s.data.toList 34=(i:Int)) (hi:i < s.size) (hj:i+1=j) (hn:s.size=n) (hp:s.extract 0 i=p) (hr:s.extract j n=r) :
 Calls prog 116 #[.string s,.string ⟨#[34]⟩] w (zAv p r true w):=by
 have H:=hI h;have b1:(0:Int)≤(i:Int)∧(i:Int)≤(s.size:Int):=by omega
 have b2:(0:Int)≤(j:Int)∧(j:Int)≤(s.size:Int):=by omega
 have s1:IntKind.i64.wrap ((i:Int)+1)=(j:Int):=by rw [IntWalk.i64_in _ (by omega)];omega
 have d1:decide ((0:Int)≤(i:Int))=true:=by simp
 rw [←hn] at hr;clear h hm hi hj hn
 go_enter func116,ntmps116
 go_wp2_with (first
  | (go_at_call 159;(with_reducible refine (zHJ s (i:Int) w H.out).mono ?_);rintro e w1 ⟨rfl,rfl⟩)
  | fail)
 go_region
 go_wp2_with fail
 go_ret3
 exact ⟨rfl,(show Below w.heap.size w w.drew from ⟨rfl,rfl,rfl,Nat.le_refl _,fun _ _=>rfl⟩)⟩
theorem zKW (s:ByteArray) (w:World) (h:Lib.indexByte s.data.toList 34= -1) :
 Calls prog 82 #[.string s,.string ⟨#[34]⟩] w (zAv s ⟨#[]⟩ false w):=by
 have H:=hI h;clear h
 go_enter func82,ntmps82
 go_wp2_with (first
  | (go_at_call 116;(with_reducible refine (zHI s w H.out).mono ?_);rintro e w1 ⟨rfl,hb1⟩)
  | fail)
 go_ret3
 exact ⟨rfl,hb1⟩
theorem zIZ (s p r:ByteArray) (i j n:Nat) (w:World) (hm:s.size≤1000000) (h:Lib.indexByte s.data.toList 34=(i:Int)) (hi:i < s.size) (hj:i+1=j) (hn:s.size=n) (hp:s.extract 0 i=p) (hr:s.extract j n=r) :
 Calls prog 82 #[.string s,.string ⟨#[34]⟩] w (zAv p r true w):=by
 have H:Hid (Calls prog 116 #[.string s,.string ⟨#[34]⟩] w (zAv p r true w)):=zFy s p r i j n w hm h hi hj hn hp hr;clear hm h hi hj hn hp hr
 go_enter func82,ntmps82
 go_wp2_with (first
  | (go_at_call 116;(with_reducible refine (H.out).mono ?_);rintro e w1 ⟨rfl,hb1⟩)
  | fail)
 go_ret3
 exact ⟨rfl,hb1⟩
theorem zHD (s:ByteArray) (w:World) (h:(34:UInt8)∉s.data.toList) :
 Calls prog 82 #[.string s,.string ⟨#[34]⟩] w (zAv s ⟨#[]⟩ false w):=by
 rcases zBR s.data.toList 34 with ⟨h1,_⟩ | ⟨i,_,hi,e,_⟩
 · exact zKW s w h1
 · exfalso;apply h;rw [e];simp
theorem zG0 (s p r:ByteArray) (w:World) (hm:s.size≤1000000) (h:s.data.toList=p.data.toList++34::r.data.toList) (hp:(34:UInt8)∉p.data.toList) :
 Calls prog 82 #[.string s,.string ⟨#[34]⟩] w (zAv p r true w):=by
 rcases zBR s.data.toList 34 with ⟨_,h1⟩ | ⟨i,h1,hi,e,hn⟩
 · exfalso;apply h1;rw [h];simp
 · have hsz:=ba_l s
   obtain ⟨e1,e2⟩:=zEW (e.symm.trans h) hn hp;refine zIZ s p r i (i+1) s.size w hm h1 (by rw [←hsz];exact hi) rfl rfl ?_ ?_
   · apply ba_x
     rw [zAh s 0 i (by rw [←hsz];omega),List.drop_zero,Nat.sub_zero,e1]
   · apply ba_x
     rw [zAh s (i+1) s.size (Nat.le_refl _),List.take_of_length_le (by rw [List.length_drop,hsz];omega),e2]
theorem zRn (s:ByteArray) (q:Int) (w:World) (h:Lib.indexByte s.data.toList 39=q) :
 Calls prog 187 #[.string s,.int .u8 ↑((⟨#[39]⟩:ByteArray)[0]'(by decide)).toNat] w fun e w'=>e=.returned (.int .i64 q)∧w=w':=by
 refine (Tryz.stringslite_IndexByte s _ w).mono fun e w' ⟨h1,h2⟩=>⟨?_,h2.symm⟩
 rw [h1,←h]
 rfl
theorem zHo (s:ByteArray) (q:Int) (w:World) (h:Lib.indexByte s.data.toList 39=q) :
 Calls prog 159 #[.string s,.string ⟨#[39]⟩] w fun e w'=>e=.returned (.int .i64 q)∧w=w':=by
 have H:=hI h
 cases hq:([39]==s.toList) with
 | true =>
  obtain rfl:(0:Int)=q:=by
   have e:s.data.toList=[39]:=by
    rw [beq_iff_eq,ByteArray.toList_eq] at hq;exact hq.symm
   rw [←h,e]
   rfl
  clear h
  go_enter func159,ntmps159
  go_wp2_with fail
  go_ret
  exact ⟨rfl,rfl⟩
 | false =>
  clear h
  go_enter func159,ntmps159
  go_wp2_with (first
   | (go_at_call 187;(with_reducible refine (zRn s q w H.out).mono ?_);rintro e w1 ⟨rfl,rfl⟩)
   | fail)
  go_ret
  exact ⟨rfl,rfl⟩
theorem zH2 (s:ByteArray) (w:World) (h:Lib.indexByte s.data.toList 39= -1) :
 Calls prog 116 #[.string s,.string ⟨#[39]⟩] w (zAv s ⟨#[]⟩ false w):=by
 have H:=hI h;clear h
 go_enter func116,ntmps116
 go_wp2_with (first
  | (go_at_call 159;(with_reducible refine (zHo s (-1) w H.out).mono ?_);rintro e w1 ⟨rfl,rfl⟩)
  | fail)
 go_ret3
 exact ⟨rfl,Below.refl _ _⟩
theorem zGR (s p r:ByteArray) (i j n:Nat) (w:World) (hm:s.size≤1000000) (h:Lib.indexByte s.data.toList 39=(i:Int)) (hi:i < s.size) (hj:i+1=j) (hn:s.size=n) (hp:s.extract 0 i=p) (hr:s.extract j n=r) :
 Calls prog 116 #[.string s,.string ⟨#[39]⟩] w (zAv p r true w):=by
 have H:=hI h;have b1:(0:Int)≤(i:Int)∧(i:Int)≤(s.size:Int):=by omega
 have b2:(0:Int)≤(j:Int)∧(j:Int)≤(s.size:Int):=by omega
 have s1:IntKind.i64.wrap ((i:Int)+1)=(j:Int):=by rw [IntWalk.i64_in _ (by omega)];omega
 have d1:decide ((0:Int)≤(i:Int))=true:=by simp
 rw [←hn] at hr;clear h hm hi hj hn
 go_enter func116,ntmps116
 go_wp2_with (first
  | (go_at_call 159;(with_reducible refine (zHo s (i:Int) w H.out).mono ?_);rintro e w1 ⟨rfl,rfl⟩)
  | fail)
 go_region
 go_wp2_with fail
 go_ret3
 exact ⟨rfl,(show Below w.heap.size w w.drew from ⟨rfl,rfl,rfl,Nat.le_refl _,fun _ _=>rfl⟩)⟩
theorem zKY (s:ByteArray) (w:World) (h:Lib.indexByte s.data.toList 39= -1) :
 Calls prog 82 #[.string s,.string ⟨#[39]⟩] w (zAv s ⟨#[]⟩ false w):=by
 have H:=hI h;clear h
 go_enter func82,ntmps82
 go_wp2_with (first
  | (go_at_call 116;(with_reducible refine (zH2 s w H.out).mono ?_);rintro e w1 ⟨rfl,hb1⟩)
  | fail)
 go_ret3
 exact ⟨rfl,hb1⟩
theorem zI1 (s p r:ByteArray) (i j n:Nat) (w:World) (hm:s.size≤1000000) (h:Lib.indexByte s.data.toList 39=(i:Int)) (hi:i < s.size) (hj:i+1=j) (hn:s.size=n) (hp:s.extract 0 i=p) (hr:s.extract j n=r) :
 Calls prog 82 #[.string s,.string ⟨#[39]⟩] w (zAv p r true w):=by
 have H:Hid (Calls prog 116 #[.string s,.string ⟨#[39]⟩] w (zAv p r true w)):=zGR s p r i j n w hm h hi hj hn hp hr;clear hm h hi hj hn hp hr
 go_enter func82,ntmps82
 go_wp2_with (first
  | (go_at_call 116;(with_reducible refine (H.out).mono ?_);rintro e w1 ⟨rfl,hb1⟩)
  | fail)
 go_ret3
 exact ⟨rfl,hb1⟩
theorem zIL (s:ByteArray) (w:World) (h:(39:UInt8)∉s.data.toList) :
 Calls prog 82 #[.string s,.string ⟨#[39]⟩] w (zAv s ⟨#[]⟩ false w):=by
 rcases zBR s.data.toList 39 with ⟨h1,_⟩ | ⟨i,_,hi,e,_⟩
 · exact zKY s w h1
 · exfalso;apply h;rw [e];simp
theorem zIK (s p r:ByteArray) (w:World) (hm:s.size≤1000000) (h:s.data.toList=p.data.toList++39::r.data.toList) (hp:(39:UInt8)∉p.data.toList) :
 Calls prog 82 #[.string s,.string ⟨#[39]⟩] w (zAv p r true w):=by
 rcases zBR s.data.toList 39 with ⟨_,h1⟩ | ⟨i,h1,hi,e,hn⟩
 · exfalso;apply h1;rw [h];simp
 · have hsz:=ba_l s
   obtain ⟨e1,e2⟩:=zEW (e.symm.trans h) hn hp;refine zI1 s p r i (i+1) s.size w hm h1 (by rw [←hsz];exact hi) rfl rfl ?_ ?_
   · apply ba_x
     rw [zAh s 0 i (by rw [←hsz];omega),List.drop_zero,Nat.sub_zero,e1]
   · apply ba_x
     rw [zAh s (i+1) s.size (Nat.le_refl _),List.take_of_length_le (by rw [List.length_drop,hsz];omega),e2]
theorem zCd (c:UInt8) (w:World) (b:Bool) (h:ltr c=b) :
 Calls prog 56 #[.int .u8 c.toNat] w fun e w'=>e=.returned (.bool b)∧w=w':=by
 have hlim:=c.toNat_lt;rcases (show (0≤c.toNat∧c.toNat≤64)∨(65≤c.toNat∧c.toNat≤90)∨(91≤c.toNat∧c.toNat≤94)∨(95≤c.toNat∧c.toNat≤95)∨(96≤c.toNat∧c.toNat≤96)∨(97≤c.toNat∧c.toNat≤122)∨(123≤c.toNat∧c.toNat≤255) by omega) with ⟨q1,q2⟩ | ⟨q1,q2⟩ | ⟨q1,q2⟩ | ⟨q1,q2⟩ | ⟨q1,q2⟩ | ⟨q1,q2⟩ | ⟨q1,q2⟩
 · obtain rfl:false=b:=by
    rw [←h];unfold ltr;have e95:(c==95)=false:=by rw [Bool.eq_iff_iff];simp [←UInt8.toNat_inj];omega
    rw [e95]
    simp <;> omega
   clear h;have feq95:((c.toNat:Int)==95)=false:=by simp;omega
   have fge97:decide ((97:Int)≤(c.toNat:Int))=false:=decide_eq_false (by omega);have fle122:decide ((c.toNat:Int)≤122)=true:=decide_eq_true (by omega);have fge65:decide ((65:Int)≤(c.toNat:Int))=false:=decide_eq_false (by omega);have fle90:decide ((c.toNat:Int)≤90)=true:=decide_eq_true (by omega)
   go_enter func56,ntmps56
   go_wp2_with fail
   go_ret
   exact ⟨rfl,rfl⟩
 · obtain rfl:true=b:=by
    rw [←h];unfold ltr;have e95:(c==95)=false:=by rw [Bool.eq_iff_iff];simp [←UInt8.toNat_inj];omega
    rw [e95]
    simp <;> omega
   clear h;have feq95:((c.toNat:Int)==95)=false:=by simp;omega
   have fge97:decide ((97:Int)≤(c.toNat:Int))=false:=decide_eq_false (by omega);have fle122:decide ((c.toNat:Int)≤122)=true:=decide_eq_true (by omega);have fge65:decide ((65:Int)≤(c.toNat:Int))=true:=decide_eq_true (by omega);have fle90:decide ((c.toNat:Int)≤90)=true:=decide_eq_true (by omega)
   go_enter func56,ntmps56
   go_wp2_with fail
   go_ret
   exact ⟨rfl,rfl⟩
 · obtain rfl:false=b:=by
    rw [←h];unfold ltr;have e95:(c==95)=false:=by rw [Bool.eq_iff_iff];simp [←UInt8.toNat_inj];omega
    rw [e95]
    simp <;> omega
   clear h;have feq95:((c.toNat:Int)==95)=false:=by simp;omega
   have fge97:decide ((97:Int)≤(c.toNat:Int))=false:=decide_eq_false (by omega);have fle122:decide ((c.toNat:Int)≤122)=true:=decide_eq_true (by omega);have fge65:decide ((65:Int)≤(c.toNat:Int))=true:=decide_eq_true (by omega);have fle90:decide ((c.toNat:Int)≤90)=false:=decide_eq_false (by omega)
   go_enter func56,ntmps56
   go_wp2_with fail
   go_ret
   exact ⟨rfl,rfl⟩
 · obtain rfl:true=b:=by
    rw [←h];unfold ltr;have e95:(c==95)=true:=by rw [Bool.eq_iff_iff];simp [←UInt8.toNat_inj];omega
    rw [e95]
    simp <;> omega
   clear h;have feq95:((c.toNat:Int)==95)=true:=by simp;omega
   have fge97:decide ((97:Int)≤(c.toNat:Int))=false:=decide_eq_false (by omega);have fle122:decide ((c.toNat:Int)≤122)=true:=decide_eq_true (by omega);have fge65:decide ((65:Int)≤(c.toNat:Int))=true:=decide_eq_true (by omega);have fle90:decide ((c.toNat:Int)≤90)=false:=decide_eq_false (by omega)
   go_enter func56,ntmps56
   go_wp2_with fail
   go_ret
   exact ⟨rfl,rfl⟩
 · obtain rfl:false=b:=by
    rw [←h];unfold ltr;have e95:(c==95)=false:=by rw [Bool.eq_iff_iff];simp [←UInt8.toNat_inj];omega
    rw [e95]
    simp <;> omega
   clear h;have feq95:((c.toNat:Int)==95)=false:=by simp;omega
   have fge97:decide ((97:Int)≤(c.toNat:Int))=false:=decide_eq_false (by omega);have fle122:decide ((c.toNat:Int)≤122)=true:=decide_eq_true (by omega);have fge65:decide ((65:Int)≤(c.toNat:Int))=true:=decide_eq_true (by omega);have fle90:decide ((c.toNat:Int)≤90)=false:=decide_eq_false (by omega)
   go_enter func56,ntmps56
   go_wp2_with fail
   go_ret
   exact ⟨rfl,rfl⟩
 · obtain rfl:true=b:=by
    rw [←h];unfold ltr;have e95:(c==95)=false:=by rw [Bool.eq_iff_iff];simp [←UInt8.toNat_inj];omega
    rw [e95]
    simp <;> omega
   clear h;have feq95:((c.toNat:Int)==95)=false:=by simp;omega
   have fge97:decide ((97:Int)≤(c.toNat:Int))=true:=decide_eq_true (by omega);have fle122:decide ((c.toNat:Int)≤122)=true:=decide_eq_true (by omega);have fge65:decide ((65:Int)≤(c.toNat:Int))=true:=decide_eq_true (by omega);have fle90:decide ((c.toNat:Int)≤90)=false:=decide_eq_false (by omega)
   go_enter func56,ntmps56
   go_wp2_with fail
   go_ret
   exact ⟨rfl,rfl⟩
 · obtain rfl:false=b:=by
    rw [←h];unfold ltr;have e95:(c==95)=false:=by rw [Bool.eq_iff_iff];simp [←UInt8.toNat_inj];omega
    rw [e95]
    simp <;> omega
   clear h;have feq95:((c.toNat:Int)==95)=false:=by simp;omega
   have fge97:decide ((97:Int)≤(c.toNat:Int))=true:=decide_eq_true (by omega);have fle122:decide ((c.toNat:Int)≤122)=false:=decide_eq_false (by omega);have fge65:decide ((65:Int)≤(c.toNat:Int))=true:=decide_eq_true (by omega);have fle90:decide ((c.toNat:Int)≤90)=false:=decide_eq_false (by omega)
   go_enter func56,ntmps56
   go_wp2_with fail
   go_ret
   exact ⟨rfl,rfl⟩
theorem zOf {c:UInt8} (h:ltr c=false):nch c=(decide (48≤c.toNat)&&decide (c.toNat≤57)||c==46||c==45):=by unfold nch;rw [h];simp
theorem zGP (c:UInt8) (w:World) (b:Bool) (h:nch c=b) :
 Calls prog 57 #[.int .u8 c.toNat] w fun e w'=>e=.returned (.bool b)∧w=w':=by
 cases hl:ltr c with
 | true =>
  have HL:=hI hl;obtain rfl:true=b:=by rw [←h,zDt hl]
  clear h hl
  go_enter func57,ntmps57
  go_wp2_with (first
   | (go_at_call 56;(with_reducible refine (zCd c _ true HL.out).mono ?_);rintro e1 w1 ⟨rfl,rfl⟩)
   | fail)
  go_ret
  exact ⟨rfl,rfl⟩
 | false =>
  have HL:=hI hl;rw [zOf hl] at h;clear hl;have hlim:=c.toNat_lt;rcases (show (0≤c.toNat∧c.toNat≤44)∨(45≤c.toNat∧c.toNat≤45)∨(46≤c.toNat∧c.toNat≤46)∨(47≤c.toNat∧c.toNat≤47)∨(48≤c.toNat∧c.toNat≤57)∨(58≤c.toNat∧c.toNat≤255) by omega) with ⟨q1,q2⟩ | ⟨q1,q2⟩ | ⟨q1,q2⟩ | ⟨q1,q2⟩ | ⟨q1,q2⟩ | ⟨q1,q2⟩
  · obtain rfl:false=b:=by
     rw [←h];have e45:(c==45)=false:=by rw [Bool.eq_iff_iff];simp [←UInt8.toNat_inj];omega
     have e46:(c==46)=false:=by rw [Bool.eq_iff_iff];simp [←UInt8.toNat_inj];omega
     rw [e45,e46]
     simp <;> omega
    clear h;have feq46:((c.toNat:Int)==46)=false:=by simp;omega
    have feq45:((c.toNat:Int)==45)=false:=by simp;omega
    have fge48:decide ((48:Int)≤(c.toNat:Int))=false:=decide_eq_false (by omega);have fle57:decide ((c.toNat:Int)≤57)=true:=decide_eq_true (by omega)
    go_enter func57,ntmps57
    go_wp2_with (first
     | (go_at_call 56;(with_reducible refine (zCd c _ false HL.out).mono ?_);rintro e1 w1 ⟨rfl,rfl⟩)
     | fail)
    go_ret
    exact ⟨rfl,rfl⟩
  · obtain rfl:true=b:=by
     rw [←h];have e45:(c==45)=true:=by rw [Bool.eq_iff_iff];simp [←UInt8.toNat_inj];omega
     have e46:(c==46)=false:=by rw [Bool.eq_iff_iff];simp [←UInt8.toNat_inj];omega
     rw [e45,e46]
     simp <;> omega
    clear h;have feq46:((c.toNat:Int)==46)=false:=by simp;omega
    have feq45:((c.toNat:Int)==45)=true:=by simp;omega
    have fge48:decide ((48:Int)≤(c.toNat:Int))=false:=decide_eq_false (by omega);have fle57:decide ((c.toNat:Int)≤57)=true:=decide_eq_true (by omega)
    go_enter func57,ntmps57
    go_wp2_with (first
     | (go_at_call 56;(with_reducible refine (zCd c _ false HL.out).mono ?_);rintro e1 w1 ⟨rfl,rfl⟩)
     | fail)
    go_ret
    exact ⟨rfl,rfl⟩
  · obtain rfl:true=b:=by
     rw [←h];have e45:(c==45)=false:=by rw [Bool.eq_iff_iff];simp [←UInt8.toNat_inj];omega
     have e46:(c==46)=true:=by rw [Bool.eq_iff_iff];simp [←UInt8.toNat_inj];omega
     rw [e45,e46]
     simp <;> omega
    clear h;have feq46:((c.toNat:Int)==46)=true:=by simp;omega
    have feq45:((c.toNat:Int)==45)=false:=by simp;omega
    have fge48:decide ((48:Int)≤(c.toNat:Int))=false:=decide_eq_false (by omega);have fle57:decide ((c.toNat:Int)≤57)=true:=decide_eq_true (by omega)
    go_enter func57,ntmps57
    go_wp2_with (first
     | (go_at_call 56;(with_reducible refine (zCd c _ false HL.out).mono ?_);rintro e1 w1 ⟨rfl,rfl⟩)
     | fail)
    go_ret
    exact ⟨rfl,rfl⟩
  · obtain rfl:false=b:=by
     rw [←h];have e45:(c==45)=false:=by rw [Bool.eq_iff_iff];simp [←UInt8.toNat_inj];omega
     have e46:(c==46)=false:=by rw [Bool.eq_iff_iff];simp [←UInt8.toNat_inj];omega
     rw [e45,e46]
     simp <;> omega
    clear h;have feq46:((c.toNat:Int)==46)=false:=by simp;omega
    have feq45:((c.toNat:Int)==45)=false:=by simp;omega
    have fge48:decide ((48:Int)≤(c.toNat:Int))=false:=decide_eq_false (by omega);have fle57:decide ((c.toNat:Int)≤57)=true:=decide_eq_true (by omega)
    go_enter func57,ntmps57
    go_wp2_with (first
     | (go_at_call 56;(with_reducible refine (zCd c _ false HL.out).mono ?_);rintro e1 w1 ⟨rfl,rfl⟩)
     | fail)
    go_ret
    exact ⟨rfl,rfl⟩
  · obtain rfl:true=b:=by
     rw [←h];have e45:(c==45)=false:=by rw [Bool.eq_iff_iff];simp [←UInt8.toNat_inj];omega
     have e46:(c==46)=false:=by rw [Bool.eq_iff_iff];simp [←UInt8.toNat_inj];omega
     rw [e45,e46]
     simp <;> omega
    clear h;have feq46:((c.toNat:Int)==46)=false:=by simp;omega
    have feq45:((c.toNat:Int)==45)=false:=by simp;omega
    have fge48:decide ((48:Int)≤(c.toNat:Int))=true:=decide_eq_true (by omega);have fle57:decide ((c.toNat:Int)≤57)=true:=decide_eq_true (by omega)
    go_enter func57,ntmps57
    go_wp2_with (first
     | (go_at_call 56;(with_reducible refine (zCd c _ false HL.out).mono ?_);rintro e1 w1 ⟨rfl,rfl⟩)
     | fail)
    go_ret
    exact ⟨rfl,rfl⟩
  · obtain rfl:false=b:=by
     rw [←h];have e45:(c==45)=false:=by rw [Bool.eq_iff_iff];simp [←UInt8.toNat_inj];omega
     have e46:(c==46)=false:=by rw [Bool.eq_iff_iff];simp [←UInt8.toNat_inj];omega
     rw [e45,e46]
     simp <;> omega
    clear h;have feq46:((c.toNat:Int)==46)=false:=by simp;omega
    have feq45:((c.toNat:Int)==45)=false:=by simp;omega
    have fge48:decide ((48:Int)≤(c.toNat:Int))=true:=decide_eq_true (by omega);have fle57:decide ((c.toNat:Int)≤57)=false:=decide_eq_false (by omega)
    go_enter func57,ntmps57
    go_wp2_with (first
     | (go_at_call 56;(with_reducible refine (zCd c _ false HL.out).mono ?_);rintro e1 w1 ⟨rfl,rfl⟩)
     | fail)
    go_ret
    exact ⟨rfl,rfl⟩
theorem zIv {l:List UInt8} (h:0 < l.length):zBG l=(ltr (l[0]'h)&&l.all nch):=by
 cases l with
 | nil=>simp at h
 | cons c r =>
  show (ltr c&&r.all nch)=(ltr c&&(nch c&&r.all nch))
  cases hc:ltr c
  · rfl
  · rw [zDt hc];rfl
theorem zEK (s:ByteArray) (w:World) (hm:s.size≤1000000) (b:Bool) (h:zBG s.data.toList=b) :
 Calls prog 22 #[.string s] w fun e w'=>e=.returned (.bool b)∧w=w':=by
 have HM:=hI hm
 by_cases h0:s.size=0
 · obtain rfl:false=b:=by rw [←h,List.eq_nil_of_length_eq_zero ((ba_l s).trans h0)];rfl
   have hem:s.toList.isEmpty=true:=by rw [zE4];simp [h0]
   clear h hm h0
   go_enter func22,ntmps22
   go_wp2_with fail
   go_ret
   exact ⟨rfl,rfl⟩
 · have hem:s.toList.isEmpty=false:=by rw [zE4];simp [h0]
   have hp:0 < s.size:=by omega
   have hpl:0 < s.data.toList.length:=by rw [ba_l];exact hp
   have b0:(0:Int) < (s.size:Int):=by omega
   rw [zIv hpl,at_l s 0 hp] at h;obtain ⟨c,hc⟩:∃c,s[0]'hp=c:=⟨_,rfl⟩;have hca:∀h,s[0]'h=c:=fun _=>hc
   rw [hc] at h
   cases hl:ltr c with
   | false =>
    have HL:=hI hl;obtain rfl:false=b:=by rw [←h,hl];rfl
    clear h hm h0 hl hc hpl
    go_enter func22,ntmps22
    go_wp2_with (first
     | (go_at_call 56;(with_reducible refine (zCd c _ false HL.out).mono ?_);rintro e1 w1 ⟨rfl,rfl⟩)
     | fail)
    go_ret
    exact ⟨rfl,rfl⟩
   | true =>
    have HL:=hI hl;have HB:Hid (s.data.toList.all nch=b):=hI (by rw [←h,hl];rfl);clear h hm h0 hl hc hpl
    go_enter func22,ntmps22
    go_wp2_with (first
     | (go_at_call 56;(with_reducible refine (zCd c _ true HL.out).mono ?_);rintro e1 w1 ⟨rfl,rfl⟩)
     | fail)
    go_loopw [14] (fun i wr=>∃k:Nat,k≤s.size∧i=.int .i64 k∧(s.data.toList.take k).all nch=true∧w=wr) (fun i _=>s.size - (intOf i).toNat)
    case atStart=>exact ⟨0,Nat.zero_le _,rfl,rfl,by first | rfl | trivial⟩
    case round =>
     obtain ⟨k,hk,rfl,hn,rfl⟩:=hrel;have hs:=HM.out
     by_cases hlt:k < s.size
     · obtain ⟨d,hd⟩:∃d,s[k]'hlt=d:=⟨_,rfl⟩
       have hda:∀h,s[k]'h=d:=fun _=>hd
       have hkl:k < s.data.toList.length:=by rw [ba_l];exact hlt
       have hdk:s.data.toList[k]'hkl=d:=(at_l s k hlt).trans hd;have bk:(0:Int)≤(k:Int)∧(k:Int) < (s.size:Int):=by omega
       cases hg:nch d with
       | false =>
        have HD:=hI hg
        obtain rfl:false=b:=by
         rw [←HB.out];refine (List.all_eq_false.2 ⟨d,hdk ▸ List.getElem_mem hkl,?_⟩).symm;rw [hg];decide
        clear hg hd hdk hn
        go_wp2_with (first
         | (go_at_call 57;(with_reducible refine (zGP d _ false HD.out).mono ?_);rintro e2 w2 ⟨rfl,rfl⟩)
         | fail)
        go_ret
        exact ⟨rfl,rfl⟩
       | true =>
        have HD:=hI hg
        have HV:Hid ((s.data.toList.take (k+1)).all nch=true):=hI (by
         rw [List.take_succ_eq_append_getElem hkl,List.all_append,hn,hdk]
         simp [hg])
        clear hg hd hdk hn
        go_wp2_with (first
         | (go_at_call 57;(with_reducible refine (zGP d _ true HD.out).mono ?_);rintro e2 w2 ⟨rfl,rfl⟩)
         | fail)
        go_roundw
        case rel=>exact ⟨k+1,hlt,by go_num,HV.out,by first | rfl | trivial⟩
        case measure=>simp [intOf];omega
     · obtain rfl:k=s.size:=by omega
       obtain rfl:true=b:=by
        rw [←HB.out];rw [List.take_of_length_le (by rw [ba_l];omega)] at hn;exact hn.symm
       clear hn
       go_wp2_with fail
       go_ret
       exact ⟨rfl,rfl⟩
theorem zBY (s:ByteArray) (w:World) (hm:s.size≤1000000) (b:Bool) (h:zAP s.data.toList=b) :
 Calls prog 156 #[.string s] w fun e w'=>e=.returned (.bool b)∧Below w.heap.size w w':=by
 unfold zAP at h;have HMs:=hI hm
 cases hc:cutC s.data.toList with
 | none =>
  rw [hc] at h
  have HC:Hid (Calls prog 82 #[.string s,.string ⟨#[58]⟩] w (zAv s ⟨#[]⟩ false w)):=hI (zEC s w fun hx=>by
   have:=zD6 hx;rw [hc] at this
   cases this)
  have Hs:Hid (zBG s.data.toList=b):=hI h;clear hc h hm
  cases b with
  | false =>
   go_enter func156,ntmps156
   go_wp2_with (first
    | (go_at_call 82;(with_reducible refine (HC.out).mono ?_);rintro e1 w1 ⟨rfl,hb1⟩)
    | (go_at_call 22;(with_reducible refine (zEK s w1 HMs.out false Hs.out).mono ?_);rintro e2 w2 ⟨rfl,rfl⟩)
    | fail)
   go_ret
   exact ⟨rfl,hb1⟩
  | true =>
   go_enter func156,ntmps156
   go_wp2_with (first
    | (go_at_call 82;(with_reducible refine (HC.out).mono ?_);rintro e1 w1 ⟨rfl,hb1⟩)
    | (go_at_call 22;(with_reducible refine (zEK s w1 HMs.out true Hs.out).mono ?_);rintro e2 w2 ⟨rfl,rfl⟩)
    | fail)
   go_ret
   exact ⟨rfl,hb1⟩
 | some p =>
  obtain ⟨pa,pb⟩:=p;rw [hc] at h;dsimp only at h;obtain ⟨e1,e2⟩:=zCH hc;obtain ⟨x,hx⟩:∃x:ByteArray,x.data.toList=pa:=⟨⟨pa.toArray⟩,by simp⟩;obtain ⟨y,hy⟩:∃y:ByteArray,y.data.toList=pb:=⟨⟨pb.toArray⟩,by simp⟩;subst hx hy;have hl:=congrArg List.length e1;rw [List.length_append,List.length_cons,ba_l,ba_l,ba_l] at hl;have HMx:Hid (x.size≤1000000):=hI (by omega);have HMy:Hid (y.size≤1000000):=hI (by omega);have HC:Hid (Calls prog 82 #[.string s,.string ⟨#[58]⟩] w (zAv x y true w)):=hI (zEF s x y w hm e1 e2)
  cases h1:zBG x.data.toList with
  | false =>
   have Hx:=hI h1;obtain rfl:false=b:=by rw [←h,h1];simp
   clear hc h hm e1 e2 hl h1
   go_enter func156,ntmps156
   go_wp2_with (first
    | (go_at_call 82;(with_reducible refine (HC.out).mono ?_);rintro e1 w1 ⟨rfl,hb1⟩)
    | (go_at_call 22;(with_reducible refine (zEK x w1 HMx.out false Hx.out).mono ?_);rintro e2 w2 ⟨rfl,rfl⟩)
    | fail)
   go_ret
   exact ⟨rfl,hb1⟩
  | true =>
   have Hx:=hI h1;have Hy:Hid (zBG y.data.toList=b):=hI (by rw [←h,h1];simp);clear hc h hm e1 e2 hl h1
   cases b with
   | false =>
    have tok1:True:=trivial
    go_enter func156,ntmps156
    go_wp2_with (first
     | (go_at_call 82;(with_reducible refine (HC.out).mono ?_);rintro e1 w1 ⟨rfl,hb1⟩)
     | (have _t:=tok1;go_at_call 22;(with_reducible refine (zEK x w1 HMx.out true Hx.out).mono ?_);rintro e2 w2 ⟨rfl,rfl⟩;clear tok1)
     | (go_at_call 22;(with_reducible refine (zEK y w1 HMy.out false Hy.out).mono ?_);rintro e3 w3 ⟨rfl,rfl⟩)
     | fail)
    go_ret
    exact ⟨rfl,hb1⟩
   | true =>
    have tok1:True:=trivial
    go_enter func156,ntmps156
    go_wp2_with (first
     | (go_at_call 82;(with_reducible refine (HC.out).mono ?_);rintro e1 w1 ⟨rfl,hb1⟩)
     | (have _t:=tok1;go_at_call 22;(with_reducible refine (zEK x w1 HMx.out true Hx.out).mono ?_);rintro e2 w2 ⟨rfl,rfl⟩;clear tok1)
     | (go_at_call 22;(with_reducible refine (zEK y w1 HMy.out true Hy.out).mono ?_);rintro e3 w3 ⟨rfl,rfl⟩)
     | fail)
    go_ret
    exact ⟨rfl,hb1⟩
end Hx
namespace Tx
open Go
theorem zOI (s:ByteArray) (i k:Nat):s.get! (i+k)=(s.data.toList.drop i).getD k default:=by
 rw [List.getD_eq_getElem?_getD,List.getElem?_drop];show s.data[i+k]! = _;rw [getElem!_def,Array.getElem?_toList]
 cases s.data[i+k]? <;> rfl
theorem zH6 (s:ByteArray) (i k:Nat):(i+k < s.size)=(k < (s.data.toList.drop i).length):=by
 have e:s.data.toList.length=s.size:=by rw [Array.length_toList];rfl
 rw [List.length_drop,e];apply propext
 omega
set_option linter.unusedSimpArgs false in
theorem zDe (s:ByteArray) (i:Nat) (h:i < s.size):Utf8.decode s i=match decL (s.data.toList.drop i) with | some p=>p | none=>(65533,1):=by
 have hp:0 < (s.data.toList.drop i).length:=by rw [←zH6];exact h
 unfold Utf8.decode;simp only [zOI,zH6]
 generalize s.data.toList.drop i=l at hp
 have hv:∀c:Nat,Utf8.valid (c:Int)=sv c:=by
  intro c;unfold Utf8.valid sv;rw [Bool.eq_iff_iff]
  simp
  omega
 have hh:∀a:UInt8,(a.toNat / 64==2)=cont a:=by
  intro a;unfold cont;rw [Bool.eq_iff_iff]
  simp
 have hre:Utf8.runeError=65533:=rfl
 cases l with
 | nil=>simp at hp
 | cons a r =>
  have ha:=a.toNat_lt;simp only [List.getD_cons_zero,List.length_cons];unfold decL;dsimp only
  by_cases h1:a.toNat < 128
  · rw [if_pos h1,if_pos h1]
  · rw [if_neg h1,if_neg h1]
    by_cases h2:a.toNat / 32=6
    · rw [if_pos h2]
      cases r with
      | nil=>simp [h2,hre]
      | cons b r =>
       simp only [h2,List.getD_cons_succ,List.getD_cons_zero,hh,List.length_cons,beq_self_eq_true,Bool.true_and];obtain ⟨x,hx⟩:∃x,a.toNat % 32*64+b.toNat % 64=x:=⟨_,rfl⟩;simp only [hx]
       cases hc:cont b
       · simp [hre]
       · by_cases hq:128≤x
         · simp [hq]
         · simp [hq,hre]
    · rw [if_neg h2]
      by_cases h3:a.toNat / 16=14
      · rw [if_pos h3]
        match r with
        | []=>simp [h2,h3,hre]
        | [b]=>simp [h2,h3,hre]
        | b::c::r =>
         simp only [h3,List.getD_cons_succ,List.getD_cons_zero,hh,List.length_cons,beq_self_eq_true,Bool.true_and];obtain ⟨x,hx⟩:∃x,a.toNat % 16*4096+b.toNat % 64*64+c.toNat % 64=x:=⟨_,rfl⟩;simp only [hx]
         cases hb:cont b <;> cases hc:cont c
         · simp [h2,hre]
         · simp [h2,hre]
         · simp [h2,hre]
         · by_cases hq:2048≤x
           · cases hs:sv x <;> simp [h2,hv,hq,hs,hre]
           · simp [h2,hq,hre]
      · rw [if_neg h3]
        by_cases h4:a.toNat / 8=30
        · rw [if_pos h4]
          match r with
          | []=>simp [h2,h3,h4,hre]
          | [b]=>simp [h2,h3,h4,hre]
          | [b,c]=>simp [h2,h3,h4,hre]
          | b::c::d::r =>
           simp only [h4,List.getD_cons_succ,List.getD_cons_zero,hh,List.length_cons,beq_self_eq_true,Bool.true_and];obtain ⟨x,hx⟩:∃x,a.toNat % 8*262144+b.toNat % 64*4096+c.toNat % 64*64+d.toNat % 64=x:=⟨_,rfl⟩;simp only [hx]
           cases hb:cont b <;> cases hc:cont c <;> cases hd:cont d
           · simp [h2,h3,hre]
           · simp [h2,h3,hre]
           · simp [h2,h3,hre]
           · simp [h2,h3,hre]
           · simp [h2,h3,hre]
           · simp [h2,h3,hre]
           · simp [h2,h3,hre]
           · by_cases hq:65536≤x
             · cases hs:sv x <;> simp [h2,h3,hv,hq,hs,hre]
             · simp [h2,h3,hq,hre]
        · rw [if_neg h4]
          simp [h2,h3,h4,hre]
theorem zMb (n:Nat) (h:sv n=true):Utf8.encode (n:Int)=⟨(enc n).toArray⟩:=by
 have hv:Utf8.valid (n:Int)=true:=by
  simp [sv] at h
  simp [Utf8.valid]
  omega
 unfold Utf8.encode enc;simp only [hv,if_true,Int.toNat_natCast]
 by_cases h1:n < 128
 · rw [if_pos h1,if_pos h1];rfl
 · rw [if_neg h1,if_neg h1]
   by_cases h2:n < 2048
   · rw [if_pos h2,if_pos h2];rfl
   · rw [if_neg h2,if_neg h2]
     by_cases h3:n < 65536
     · rw [if_pos h3,if_pos h3];rfl
     · rw [if_neg h3,if_neg h3];rfl
end Tx
end Go.Proofs.YtlgppednjkbgiaaGreatDoor
