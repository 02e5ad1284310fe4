/-
  Texts of one seat, put together: LexW, LexJ, LexG, TreA, TreK, TreB.
-/
import Derived.Test.YtlgppednjkbgiaaGreatDoorMbA
import Derived.Test.YtlgppednjkbgiaaGreatDoorMb06
import Derived.Test.YtlgppednjkbgiaaGreatDoorMb05
import Derived.Deep.RegionHeld3
import Derived.Test.YtlgppednjkbgiaaGreatDoorMb03
import Derived.RegionTactic
import Derived.ChangeAlike
import Derived.Maps.OwnSet
import Derived.Test.YtlgppednjkbgiaaGreatDoorMb01
set_option maxRecDepth 100000
set_option maxHeartbeats 16000000
set_option linter.unusedVariables false
namespace Go.Proofs.YtlgppednjkbgiaaGreatDoor
open Go.RowKit Go.Proofs.Tryz
namespace Hx
open Lx Tx Nmb Es
abbrev PB:=ByteArray × ByteArray
def zBV (p:PB):List Value:=[.string p.1,.string p.2]
def zB1 (p:PB):Pr:=⟨p.1.data.toList,p.2.data.toList⟩
theorem zMo (w:World) (B:Nat) (p:PB):PrC.R w B (zBV p) (zB1 p):=⟨p.1,p.2,rfl,rfl,rfl⟩
theorem zEn {w:World} {base:Nat} {A:Option Addr} {n c:Nat} {l:List PB} (h:w.ownsRow base 187 2 (.slice A n c) n (l.flatMap zBV)):RdC PrC w w.heap.size A (l.map zB1)∧l.length=n∧n≤c∧c≤maxLen∧(A=none→c=0) :=
 RdC.of_own (C:=PrC) zBV zB1 (fun _=>rfl) (by decide) l (fun b _=>zMo _ _ b) h
def TkR (B:Nat) (w:World) (cs:Array Value) (t:Tk):Prop:=TkC.R w w.heap.size cs.toList t∧∀A n c,cs[2]?=some (.slice A n c)→∀ad,A=some ad→B≤ad.block
theorem zH1 {l r:List UInt8} {p:Pr} (h:zB2 l=some (p,r)):∃k,k≤l.length∧r=l.drop k:=by
 obtain ⟨g1,g2,x,rfl,_,_,_,h4⟩:=(zCv _ _ _).1 h;obtain ⟨q,raw,rfl,_⟩:=(zDq _ _ _).1 h4;refine ⟨(p.name++(g1++61::(g2++q::(raw++[q])))).length,by simp <;> omega,?_⟩;have e:p.name++(g1++61::(g2++q::(raw++q::r)))=(p.name++(g1++61::(g2++q::(raw++[q]))))++r:=by simp
 rw [e,List.drop_left]
theorem zNZ (w:World) (k:Nat) (hk:k < 256) (x:ByteArray):TkC.R w w.heap.size (#[Value.int .u8 (k:Int),.string x,.slice none 0 0,.string ⟨#[]⟩]:Array Value).toList ⟨k,x.data.toList,[],[]⟩ :=
 ⟨x,none,0,⟨#[]⟩,rfl,hk,rfl,rfl,Nat.le_refl _,Nat.zero_le _,fun _=>rfl,RdC.nil _ _ _⟩
theorem zNU (B:Nat) (w:World) (k:Nat) (hk:k < 256) (x:ByteArray):TkR B w #[Value.int .u8 (k:Int),.string x,.slice none 0 0,.string ⟨#[]⟩] ⟨k,x.data.toList,[],[]⟩ :=
 ⟨zNZ w k hk x,fun A n c h ad e=>by
  have h':Value.slice none 0 0=.slice A n c:=Option.some.inj h;injection h' with h1 _ _;rw [←h1] at e
  cases e⟩
theorem zAA (w:World) (g k:Nat) (cs:Array Value) (t:TypeId) (fr:Nat × Nat) (h:w.heap[g]?=some (.cells cs t fr)):w.cell? ⟨g,k,none⟩=cs[k]?:=by simp [World.cell?,h]
theorem zAZ (w:World) (g k:Nat) (cs:Array Value) (t:TypeId) (h:w.heap[g]?=some (.cells cs t (0,0))):w.frozen? ⟨g,k,none⟩=false:=by simp [World.frozen?,h]
theorem zD9 {w:World} {base:Nat} {e:TypeId} {size:Nat} {v:Value} {n:Nat} {xs:List Value} (h:w.ownsRow base e size v n xs) (R:Nat) (hR:R < base) (cs:Array Value):(w.setRow R cs).ownsRow base e size v n xs:=by
 refine ⟨h.1,?_⟩;rcases h.2 with h0 | ⟨g,cap,cur,hv,hb,hg,rest⟩
 · exact .inl h0
 · exact .inr ⟨g,cap,cur,hv,hb,(setRow_other w R g cs (by omega)).trans hg,rest⟩
theorem zPj:(prog.info? 187).map (fun i=>(i.zero,i.size,i.bytes))=some (some (.agg #[.string ⟨#[]⟩,.string ⟨#[]⟩]),2,32):=by kernel_rfl
theorem zAD {w:World} {base:Nat} {e:TypeId} {size:Nat} {v:Value} {n:Nat} {xs:List Value} (h:w.ownsRow base e size v n xs):∃A c,v=.slice A n c:=by
 rcases h.2 with ⟨rfl,rfl⟩ | ⟨g,cap,cur,rfl,_⟩
 · exact ⟨none,0,rfl⟩
 · exact ⟨_,cap,rfl⟩
theorem zOy {w:World} {g:Nat} {L:List PB} {v:Value} (k:Nat) (hk:k < 256) (t:ByteArray) (h:w.ownsRow (g+1) 187 2 v L.length (L.flatMap zBV)) :
 TkC.R w w.heap.size (#[Value.int .u8 (k:Int),.string t,v,.string ⟨#[]⟩]:Array Value).toList ⟨k,t.data.toList,L.map zB1,[]⟩:=by
 obtain ⟨A,c,rfl⟩:=zAD h;obtain ⟨h1,h2,h3,h4,h5⟩:=zEn h;exact ⟨t,A,c,⟨#[]⟩,by simp,hk,rfl,rfl,by simpa using h3,h4,h5,h1⟩
theorem zP5 {w:World} {g R:Nat} {L:List PB} {v:Value} {cs:Array Value} (h:w.ownsRow (g+1) 187 2 v L.length (L.flatMap zBV)) (hR:R < g) (k:Nat) (hk:k < 256) (t:ByteArray) :
 TkC.R (w.setRow R cs) (w.setRow R cs).heap.size (#[Value.int .u8 (k:Int),.string t,v,.string ⟨#[]⟩]:Array Value).toList ⟨k,t.data.toList,L.map zB1,[]⟩:=zOy k hk t (zD9 h R (by omega) cs)
theorem zLd {w:World} {B g R:Nat} {L:List PB} {A:Option Addr} {c:Nat} {cs:Array Value} (h:w.ownsRow (g+1) 187 2 (.slice A L.length c) L.length (L.flatMap zBV)) (hR:R < g) (hB:B≤R) (k:Nat) (hk:k < 256) (t:ByteArray) :
 TkR B (w.setRow R cs) #[Value.int .u8 (k:Int),.string t,.slice A L.length c,.string ⟨#[]⟩] ⟨k,t.data.toList,L.map zB1,[]⟩:=by
 refine ⟨zP5 h hR k hk t,fun A' n c' e ad e2=>?_⟩;have h':Value.slice A L.length c=.slice A' n c':=Option.some.inj e;injection h' with h1 _ _;rcases h.2 with ⟨h3,_⟩ | ⟨g',cap,cur,hv,hb,_⟩
 · injection h3 with h3 _ _
   rw [←h1,h3] at e2
   cases e2
 · injection hv with h3 _ _
   rw [←h1,h3] at e2;injection e2 with e2;rw [←e2];show B≤g'
   omega
theorem zAF {w w':World} {B base:Nat} {e:TypeId} {size:Nat} {v:Value} {n:Nat} {xs:List Value} (h:w.ownsRow base e size v n xs) (hb:Below B w w') (hB:w.heap.size≤B):w'.ownsRow base e size v n xs:=by
 refine h.kept (row:=none) ⟨hb.os,hb.tape,hb.output,hb.size,fun k hk _=>hb.block k (by omega)⟩ ?_
 cases v.ownBlock
 · exact .inl rfl
 · exact .inr (by simp)
theorem zAp (w:World) (cs:List Value) (t:TypeId) (B:Nat) (hB:w.heap.size=B):∀(j:Nat) (u:Value),cs[j]?=some u→(w.alloc (.cells cs.toArray t)).cell? ((⟨B,0,none⟩:Addr).add j)=some u:=fun j u h=>by
 subst hB;rw [zBB,World.cell?_alloc_new]
 simpa using h
theorem zAH (w:World) (g k b:Nat) (x:Value) (h:b≠g):(w.setCell ⟨g,k,none⟩ x).heap[b]?=w.heap[b]?:=by
 unfold World.setCell;dsimp only;rw [Array.getElem?_modify,if_neg (fun e=>h e.symm)]
theorem zAf {w:World} {base:Nat} {e:TypeId} {size:Nat} {v:Value} {n:Nat} {xs:List Value} (h:w.ownsRow base e size v n xs) (R k:Nat) (hR:R < base) (x:Value):(w.setCell ⟨R,k,none⟩ x).ownsRow base e size v n xs:=by
 refine ⟨h.1,?_⟩;rcases h.2 with h0 | ⟨g,cap,cur,hv,hb,hg,rest⟩
 · exact .inl h0
 · exact .inr ⟨g,cap,cur,hv,hb,(zAH w R k g x (by omega)).trans hg,rest⟩
def TkV (t:Tk) (x u:ByteArray) (A:Option Addr) (cp:Nat):Value:=.agg #[.int .u8 (t.kind:Int),.string x,.slice A t.attrs.length cp,.string u]
structure TkAt (t:Tk) (x u:ByteArray) (A:Option Addr) (cp:Nat) (w:World):Prop where
 name:x.data.toList=t.name
 text:u.data.toList=t.text
 attrs:RdC PrC w w.heap.size A t.attrs
 le:t.attrs.length≤cp
 ns:x.size≤1000000
 us:u.size≤1000000
 al:t.attrs.length≤1000000
 sz:∀p∈t.attrs,p.name.length≤1000000∧p.value.length≤1000000
theorem TkAt.on {t:Tk} {x u:ByteArray} {A:Option Addr} {cp:Nat} {w w':World} (h:TkAt t x u A cp w) (hb:Below w.heap.size w w'):TkAt t x u A cp w':=⟨h.name,h.text,h.attrs.on hb,h.le,h.ns,h.us,h.al,h.sz⟩
theorem zAa {w w1:World} {cs:Array Value} {T:TypeId} (hb:Below (w.alloc (.cells cs T)).heap.size (w.alloc (.cells cs T)) w1) (i:Nat) (v:Value) (h:cs[i]?=some v):w1.cell? ⟨w.heap.size,i,none⟩=some v∧w.heap.size < w1.heap.size:=by
 have hs:=hb.size
 simp at hs
 refine ⟨?_,by omega⟩;rw [hb.cell (p:=⟨w.heap.size,i,none⟩) (by simp)]
 simp [h]
theorem zLw (s:ByteArray):s.toList.isEmpty=s.data.toList.isEmpty:=by rw [ByteArray.toList_eq]
def zEg (t:Tk):Int:=if mayT t then 0 else 8
theorem zHR (a b:ByteArray):(a++b).data.toList=a.data.toList++b.data.toList:=by simp
theorem zA7 {w w' w0:World} (h0:Below w0.heap.size w0 w) (h:Below w.heap.size w w'):Below w0.heap.size w0 w':=h0.trans (h.mono h0.size)
end Hx
namespace Hx
open Lx Tr Tx Nmb Es
theorem zCa (s:ByteArray) (w:World) (hm:s.size≤1000000) (b:Bool) (h:okT s.data.toList=b) :
 Calls prog 155 #[.string s] w fun e w'=>e=.returned (.bool b)∧Below w.heap.size w w':=by
 cases b with
 | true =>
  have HC:=hI (zCb s w hm 0 (zE8 h));clear hm h
  go_enter func155,ntmps155
  go_wp2_with (first
   | (go_at_call 47;(with_reducible refine (HC.out).mono ?_);rintro e1 w1 ⟨rfl,hb1⟩)
   | fail)
  go_ret
  exact ⟨rfl,hb1⟩
 | false =>
  obtain ⟨q,hq⟩:∃q,chkE s=q:=⟨_,rfl⟩
  have h0:(q==0)=false:=by
   have:=zEa h;rw [hq] at this
   simpa using this
  have HC:=hI (zCb s w hm q hq);clear hm h hq
  go_enter func155,ntmps155
  go_wp2_with (first
   | (go_at_call 47;(with_reducible refine (HC.out).mono ?_);rintro e1 w1 ⟨rfl,hb1⟩)
   | fail)
  go_ret
  exact ⟨rfl,hb1⟩
def ddK (ks:List Ky):List Ky:=ks.foldl addK []
theorem zPt:∀(ks D:List Ky),(ks.foldl addK D).length≤D.length+ks.length∧((ks.foldl addK D).length=D.length+ks.length↔ks.Nodup∧∀p∈ks,p∉D):=by
 intro ks
 induction ks with
 | nil=>intro D;simp
 | cons p ks ih =>
  intro D;rw [List.foldl_cons]
  by_cases hp:p∈D
  · rw [show addK D p=D from if_pos hp]
    obtain ⟨h1,_⟩:=ih D;refine ⟨by rw [List.length_cons];omega,?_⟩
    constructor
    · intro h;rw [List.length_cons] at h;omega
    · rintro ⟨_,h⟩;exact absurd hp (h p (by simp))
  · rw [show addK D p=D++[p] from if_neg hp]
    obtain ⟨h1,h2⟩:=ih (D++[p]);rw [List.length_append,List.length_singleton] at h1 h2;refine ⟨by rw [List.length_cons];omega,?_⟩;rw [List.length_cons,show D.length+(ks.length+1)=D.length+1+ks.length by omega,h2,List.nodup_cons]
    constructor
    · rintro ⟨k1,k2⟩
      refine ⟨⟨fun hm=>(k2 p hm) (by simp),k1⟩,fun q hq=>?_⟩;rcases List.mem_cons.1 hq with rfl | hq
      · exact hp
      · intro hd;exact k2 q hq (by simp [hd])
    · rintro ⟨⟨k0,k1⟩,k2⟩
      refine ⟨k1,fun q hq hd=>?_⟩;rcases List.mem_append.1 hd with hd | hd
      · exact k2 q (by simp [hq]) hd
      · rw [List.mem_singleton] at hd;exact k0 (hd ▸ hq)
theorem zNv (l:List At) (k:Nat) (h:k < l.length):ddK ((l.take (k+1)).map key)=addK (ddK ((l.take k).map key)) (key (l[k]'h)):=by
 unfold ddK;rw [List.take_succ_eq_append_getElem h,List.map_append,List.foldl_append]
 rfl
theorem zQ1 (l:List At):decide ((ddK (l.map key)).length=l.length)=decide ((l.map key).Nodup):=by
 have:=(zPt (l.map key) []).2;unfold ddK;rw [List.length_nil,Nat.zero_add,List.length_map] at this;rw [decide_eq_decide,this]
 simp
theorem zI8 (A:Option Addr) (n cp:Nat) (l:List At) (w:World) (hr:RdB AtS w A l) (hn:l.length=n) (hm:n≤1000000) (hsz:∀a∈l,a.space.length≤1000000∧a.name.length≤1000000∧a.value.length≤1000000) (q:Bool) (h:zDN l=q) :
 Calls prog 157 #[.slice A n cp] w fun e w'=>e=.returned (.bool q)∧Below w.heap.size w w':=by
 have HR:=hI hr;have HN:=hI hn;have HM:=hI hm;have HH:=hI h;have HSZ:=hI hsz;clear hr hn h hsz
 by_cases h16:16 < n
 · have f16:decide ((16:Int) < (n:Int))=true:=decide_eq_true (by omega)
   obtain rfl:false=q:=by
    rw [←HH.out];unfold zDN;rw [HN.out,decide_eq_false (by omega:¬n≤16),Bool.and_false]
   go_enter func157,ntmps157
   go_wp2_with fail
   go_ret
   exact ⟨rfl,Below.refl _ _⟩
 · have f16:decide ((16:Int) < (n:Int))=false:=decide_eq_false (by omega)
   have hmm:=@run_makeMap prog;have HB0:Hid (Below w.heap.size w (w.alloc (.map #[] 0))):=hI ((Below.refl _ _).alloc (Nat.le_refl _) _)
   go_enter func157,ntmps157
   go_wp2_with fail
   go_loopw [12] (fun i wr=>∃k:Nat,k≤n∧i=.int .i64 k∧(l.take k).all atOk=true∧MapN wr w.heap.size (ddK ((l.take k).map key)) k∧Below w.heap.size w wr∧w.heap.size < wr.heap.size) (fun i _=>n - (intOf i).toNat)
   case atStart=>exact ⟨0,Nat.zero_le _,rfl,rfl,⟨⟨(fun p hp=>by cases hp),List.nodup_nil⟩,#[],0,MapKept.heap_alloc w _ |>.1,(fun e he=>by simp at he),by simp,rfl,(fun e he=>by simp at he)⟩,HB0.out,by simp⟩
   case round =>
    obtain ⟨k,hk,rfl,hall,hmap,hbw,hsz0⟩:=hrel;have hm:=HM.out;have HBW:=hI hbw;have HALL:=hI hall;have HMAP:=hI hmap
    by_cases hlt:k < n
    · have hk1:k < l.length:=by rw [HN.out];exact hlt
      obtain ⟨b0,off,x,y,z,rfl,hbB,hx,hy,hz,c0,c1,c2⟩:=zDL (HR.out.on hbw) hk1;have hs:=HSZ.out _ (List.getElem_mem hk1);rw [←hx,←hy,←hz,ba_l,ba_l,ba_l] at hs;have HXS:=hI hs.1;have HYS:=hI hs.2.1;have HZS:=hI hs.2.2;have HKEY:Hid (ddK ((l.take (k+1)).map key)=addK (ddK ((l.take k).map key)) (x.data.toList,y.data.toList)):=hI (by rw [zNv l k hk1];unfold key;rw [hx,hy])
      have HAT:Hid ((l.take (k+1)).all atOk=(zAP y.data.toList&&okT z.data.toList&&okT x.data.toList)):=hI (by
       rw [List.take_succ_eq_append_getElem hk1,List.all_append,hall,hx,hy,hz]
       simp [atOk])
      have HQ:Hid ((zAP y.data.toList&&okT z.data.toList&&okT x.data.toList)=false→false=q):=hI fun hf=>by
       rw [←HH.out];unfold zDN
       have:l.all atOk=false:=by
        rw [List.all_eq_false];refine ⟨_,List.getElem_mem hk1,?_⟩;unfold atOk;rw [←hx,←hy,←hz,hf]
        decide
       rw [this]
       rfl
      have HBO:Hid (∀o,Below wr.heap.size wr (wr.alloc o)):=hI fun o=>(Below.refl _ _).alloc (Nat.le_refl _) o
      have bk:(0:Int)≤(k:Int)∧(k:Int) < (n:Int):=by omega
      have HLT:=hI hlt;clear hbw hall hmap hx hy hz hs hk1
      cases hf1:okT x.data.toList with
      | false =>
       have HF1:=hI hf1;obtain rfl:false=q:=HQ.out (by rw [hf1,Bool.and_false]);clear hf1
       go_wp2_with (first
        | (go_at_call 155;(with_reducible refine (zCa x _ HXS.out false HF1.out).mono ?_);rintro e1 w1 ⟨rfl,hb1⟩;have HB1:Hid (Below wr.heap.size wr w1):=hI (zA7 (HBO.out _) hb1);have HX1:=hI (zAB (heap_alloc_new wr (.cells #[.string x,.string y,.string z] 44)) hb1);have d10:=zAA w1 _ 0 _ _ _ HX1.out;have d11:=zAA w1 _ 1 _ _ _ HX1.out;have d12:=zAA w1 _ 2 _ _ _ HX1.out;clear hb1)
        | fail)
       go_ret
       exact ⟨rfl,stp HBW.out HB1.out⟩
      | true =>
       have HF1:=hI hf1
       cases hf2:zAP y.data.toList with
       | false =>
        have HF2:=hI hf2;obtain rfl:false=q:=HQ.out (by rw [hf2,Bool.false_and,Bool.false_and]);clear hf1 hf2
        go_wp2_with (first
         | (go_at_call 155;(with_reducible refine (zCa x _ HXS.out true HF1.out).mono ?_);rintro e1 w1 ⟨rfl,hb1⟩;have HB1:Hid (Below wr.heap.size wr w1):=hI (zA7 (HBO.out _) hb1);have HX1:=hI (zAB (heap_alloc_new wr (.cells #[.string x,.string y,.string z] 44)) hb1);have d10:=zAA w1 _ 0 _ _ _ HX1.out;have d11:=zAA w1 _ 1 _ _ _ HX1.out;have d12:=zAA w1 _ 2 _ _ _ HX1.out;clear hb1)
         | (go_at_call 156;(with_reducible refine (zBY y _ HYS.out false HF2.out).mono ?_);rintro e2 w2 ⟨rfl,hb2⟩;have HB2:Hid (Below wr.heap.size wr w2):=hI (stp HB1.out hb2);have HX2:=hI (zAB HX1.out hb2);have d20:=zAA w2 _ 0 _ _ _ HX2.out;have d21:=zAA w2 _ 1 _ _ _ HX2.out;have d22:=zAA w2 _ 2 _ _ _ HX2.out;clear hb2)
         | fail)
        go_ret
        exact ⟨rfl,stp HBW.out HB2.out⟩
       | true =>
        have HF2:=hI hf2
        cases hf3:okT z.data.toList with
        | false =>
         have HF3:=hI hf3;obtain rfl:false=q:=HQ.out (by rw [hf3,Bool.and_false,Bool.false_and]);clear hf1 hf2 hf3
         go_wp2_with (first
          | (go_at_call 155;(with_reducible refine (zCa x _ HXS.out true HF1.out).mono ?_);rintro e1 w1 ⟨rfl,hb1⟩;have HB1:Hid (Below wr.heap.size wr w1):=hI (zA7 (HBO.out _) hb1);have HX1:=hI (zAB (heap_alloc_new wr (.cells #[.string x,.string y,.string z] 44)) hb1);have d10:=zAA w1 _ 0 _ _ _ HX1.out;have d11:=zAA w1 _ 1 _ _ _ HX1.out;have d12:=zAA w1 _ 2 _ _ _ HX1.out;clear hb1)
          | (go_at_call 156;(with_reducible refine (zBY y _ HYS.out true HF2.out).mono ?_);rintro e2 w2 ⟨rfl,hb2⟩;have HB2:Hid (Below wr.heap.size wr w2):=hI (stp HB1.out hb2);have HX2:=hI (zAB HX1.out hb2);have d20:=zAA w2 _ 0 _ _ _ HX2.out;have d21:=zAA w2 _ 1 _ _ _ HX2.out;have d22:=zAA w2 _ 2 _ _ _ HX2.out;clear hb2)
          | (go_at_call 155;(with_reducible refine (zCa z _ HZS.out false HF3.out).mono ?_);rintro e3 w3 ⟨rfl,hb3⟩;have HB3:Hid (Below wr.heap.size wr w3):=hI (stp HB2.out hb3);have HX3:=hI (zAB HX2.out hb3);have f32:=zAZ w3 _ 2 _ _ HX3.out;have d30:=zAA w3 _ 0 _ _ _ HX3.out;have d31:=zAA w3 _ 1 _ _ _ HX3.out;have d32:=zAA w3 _ 2 _ _ _ HX3.out;clear hb3)
          | fail)
         go_ret
         exact ⟨rfl,stp HBW.out HB3.out⟩
        | true =>
         have HF3:=hI hf3;have HAT2:Hid ((l.take (k+1)).all atOk=true):=hI (by rw [HAT.out,hf1,hf2,hf3];rfl);clear hf1 hf2 hf3
         go_wp2_with (first
          | (go_at_call 155;(with_reducible refine (zCa x _ HXS.out true HF1.out).mono ?_);rintro e1 w1 ⟨rfl,hb1⟩;have HB1:Hid (Below wr.heap.size wr w1):=hI (zA7 (HBO.out _) hb1);have HX1:=hI (zAB (heap_alloc_new wr (.cells #[.string x,.string y,.string z] 44)) hb1);have d10:=zAA w1 _ 0 _ _ _ HX1.out;have d11:=zAA w1 _ 1 _ _ _ HX1.out;have d12:=zAA w1 _ 2 _ _ _ HX1.out;clear hb1)
          | (go_at_call 156;(with_reducible refine (zBY y _ HYS.out true HF2.out).mono ?_);rintro e2 w2 ⟨rfl,hb2⟩;have HB2:Hid (Below wr.heap.size wr w2):=hI (stp HB1.out hb2);have HX2:=hI (zAB HX1.out hb2);have d20:=zAA w2 _ 0 _ _ _ HX2.out;have d21:=zAA w2 _ 1 _ _ _ HX2.out;have d22:=zAA w2 _ 2 _ _ _ HX2.out;clear hb2)
          | (go_at_call 155;(with_reducible refine (zCa z _ HZS.out true HF3.out).mono ?_);rintro e3 w3 ⟨rfl,hb3⟩;have HB3:Hid (Below wr.heap.size wr w3):=hI (stp HB2.out hb3);have HX3:=hI (zAB HX2.out hb3);have f32:=zAZ w3 _ 2 _ _ HX3.out;have d30:=zAA w3 _ 0 _ _ _ HX3.out;have d31:=zAA w3 _ 1 _ _ _ HX3.out;have d32:=zAA w3 _ 2 _ _ _ HX3.out;clear hb3)
          | fail)
         obtain ⟨V,hV⟩:∃V,w3.setCell ⟨wr.heap.size,2,none⟩ (.string ⟨#[]⟩)=V:=⟨_,rfl⟩;rw [hV];have hsz3:=HB3.out.size
         have hXV:V.heap[wr.heap.size]?=some (.cells #[.string x,.string y,.string ⟨#[]⟩] 44 (0,0)):=by
          rw [←hV];exact heap_setCell_same w3 wr.heap.size 2 _ _ _ HX3.out
         have hBV:Below wr.heap.size wr V:=by
          rw [←hV];exact HB3.out.setCell (p:=⟨wr.heap.size,2,none⟩) (Nat.le_refl _) _
         obtain ⟨c,st,W1,W2,hc,E1,E2,E3,E4,hM2,o1,o2⟩:=zOs (w:=V.drew) (HMAP.out.kept (hBV.block _ hsz0)) (p:=(x.data.toList,y.data.toList)) ⟨by rw [ba_l];exact HXS.out,by rw [ba_l];exact HYS.out⟩;have ek:kyV (x.data.toList,y.data.toList)=.agg #[.string x,.string y,.string ⟨#[]⟩]:=rfl;rw [ek] at E1 E2 E3;unfold T0 at E1 E2 E3 E4;have hne:wr.heap.size≠w.heap.size:=by omega
         have dV0:=zAA V _ 0 _ _ _ hXV;have dV1:=zAA V _ 1 _ _ _ hXV;have dV2:=zAA V _ 2 _ _ _ hXV;have hX1:=(o1.block _ hne).trans hXV;have dW0:=zAA W1 _ 0 _ _ _ hX1;have dW1:=zAA W1 _ 1 _ _ _ hX1;have dW2:=zAA W1 _ 2 _ _ _ hX1;have HB5:Hid (Below w.heap.size w W2):=hI (((stp HBW.out hBV).drew.trans (o1.below (Nat.le_refl _))).trans (o2.below (Nat.le_refl _)));have HSZ5:Hid (w.heap.size < W2.heap.size):=hI (by rw [o2.size,o1.size];have:wr.heap.size≤V.heap.size:=hBV.size;show w.heap.size < V.heap.size;omega);have HM5:=hI hM2;have bc:(0:Int)≤(c:Int)∧(c:Int)≤1000000:=by omega
         clear hV hXV hBV hM2 o1 o2 hX1 ek hne hsz3 d10 d11 d12 d20 d21 d22 d30 d31 d32 f32 hsz0 hlt c0 c1 c2
         go_region
         all_goals
          go_wp2_with fail
          exact ⟨⟨k+1,HLT.out,by go_num,HAT2.out,by rw [HKEY.out];exact HM5.out,HB5.out,HSZ5.out⟩,by have:=HLT.out;simp [intOf];omega⟩
    · obtain rfl:k=n:=by omega
      obtain ⟨_,es,clock,hes,_,_,hkeys,_⟩:=hmap
      have hsz:es.size=(ddK ((l.take k).map key)).length:=by
       have:=congrArg List.length hkeys;rw [List.length_map,List.length_map] at this;exact this
      have htk:l.take k=l:=by rw [←HN.out];exact List.take_length
      obtain ⟨r,hr⟩:∃r,(((es.size:Nat):Int)==(k:Int))=r:=⟨_,rfl⟩
      have HQ:Hid (r=q):=hI (by
       rw [←hr,←HH.out];unfold zDN;rw [htk] at hall hsz;have h1:=zQ1 l;rw [hall,HN.out,decide_eq_true (by omega:k≤16),Bool.true_and,Bool.and_true,←h1,hsz,HN.out];rw [Bool.eq_iff_iff]
       simp
       omega)
      have hlen:(Builtin.len_ #[215] 3 #[.map (some w.heap.size)]).run prog wr=.ok (.int .i64 (es.size:Nat)) wr:=by
       simp [Builtin.len_,MapKept.run_getObj_map hes,goInt,Result.andThen]
      clear hbw hall hkeys hsz htk hes
      go_wp2_with fail
      go_ret
      exact ⟨zQU HQ.out,HBW.out⟩
def zCR (n:Nd):Bool:=ndOk n&&decide (0≤n.many)
theorem zLl {g:List Nd→Option (List Nd)}:∀(k k2:Nat) (b b1:Bool) (l m:List Nd),zAG g k b l=some (b1,m)→zAG g (k+k2) b l=zAG g k2 b1 m:=by
 intro k
 induction k with
 | zero =>
  intro k2 b b1 l m h;rw [zAG] at h;obtain ⟨rfl,rfl⟩:=(Prod.mk.injEq _ _ _ _).mp (Option.some.inj h);rw [Nat.zero_add]
 | succ k ih =>
  intro k2 b b1 l m h
  cases l with
  | nil=>rw [zAG] at h;cases h
  | cons n l =>
   rw [zAG] at h
   by_cases hb:b=true∧n.kind=2
   · rw [if_pos hb] at h;cases h
   · rw [if_neg hb] at h
     rw [show k+1+k2=(k+k2)+1 by omega,zAG,if_neg hb]
     cases hn:g (n::l) with
     | none=>rw [hn] at h;cases h
     | some y =>
      rw [hn] at h;exact ih k2 _ _ _ _ h
theorem zLB {g:List Nd→Option (List Nd)}:∀(k k2:Nat) (b:Bool) (l:List Nd),zAG g k b l=none→zAG g (k+k2) b l=none:=by
 intro k
 induction k with
 | zero=>intro k2 b l h;rw [zAG] at h;cases h
 | succ k ih =>
  intro k2 b l h
  cases l with
  | nil=>rw [show k+1+k2=(k+k2)+1 by omega,zAG]
  | cons n l =>
   rw [zAG] at h;rw [show k+1+k2=(k+k2)+1 by omega,zAG]
   by_cases hb:b=true∧n.kind=2
   · rw [if_pos hb]
   · rw [if_neg hb] at h ⊢
     cases hn:g (n::l) with
     | none=>rfl
     | some y =>
      rw [hn] at h;exact ih k2 _ _ h
theorem zHd {d j m:Nat} {b:Bool} {l:List Nd} {v:List Nd} {p':Nat} (h:zAG (zAE d) j false l=some (b,v.drop p')) (hj:j < m) :
 (v.length≤p'→zAG (zAE d) m false l=none) ∧
 (∀hp:p' < v.length,(b=true∧(v[p']'hp).kind=2→zAG (zAE d) m false l=none)∧(zAE d (v.drop p')=none→zAG (zAE d) m false l=none) ∧
  (∀r,¬(b=true∧(v[p']'hp).kind=2)→zAE d (v.drop p')=some r→zAG (zAE d) (j+1) false l=some (decide ((v[p']'hp).kind=2),r))):=by
 have e1:=zLl j 1 false b l _ h
 have fail:zAG (zAE d) 1 b (v.drop p')=none→zAG (zAE d) m false l=none:=by
  intro hf;rw [hf] at e1;have:=zLB (j+1) (m - (j+1)) false l e1
  rwa [show j+1+(m - (j+1))=m by omega] at this
 refine ⟨fun hp=>fail (by rw [List.drop_of_length_le hp,zAG]),fun hp=>⟨fun hb=>fail ?_,fun hn=>fail ?_,fun r hb hr=>?_⟩⟩
 · rw [List.drop_eq_getElem_cons hp,zAG,if_pos hb]
 · rw [List.drop_eq_getElem_cons hp] at hn ⊢
   rw [zAG]
   by_cases hb:b=true∧(v[p']'hp).kind=2
   · rw [if_pos hb]
   · rw [if_neg hb,hn]
 · rw [e1]
   rw [List.drop_eq_getElem_cons hp] at hr ⊢;rw [zAG,if_neg hb,hr]
   rfl
theorem zEb {d:Nat} {v:List Nd} {p:Nat} (hp:p < v.length):zAE d (v.drop p)=if zCR (v[p]'hp)=true∧¬((v[p]'hp).kind=1∧d=0) then (zAG (zAE (d - 1)) (v[p]'hp).many.toNat false (v.drop (p+1))).map (·.2) else none:=by
 rw [List.drop_eq_getElem_cons hp];have hB:zCR (v[p]'hp)=true↔ndOk (v[p]'hp)=true∧0≤(v[p]'hp).many:=by unfold zCR;simp
 cases d with
 | zero =>
  rw [zAE]
  by_cases h:ndOk (v[p]'hp)=true∧(v[p]'hp).kind=2
  · have h0:=(zA6 h.1 h.2).1
    rw [if_pos h,if_pos ⟨hB.2 ⟨h.1,by omega⟩,by omega⟩,h0]
    rfl
  · rw [if_neg h,if_neg]
    rintro ⟨h1,h2⟩;have h3:=hB.1 h1;rcases zBX h3.1 with h4 | h4
    · exact h2 ⟨h4,rfl⟩
    · exact h ⟨h3.1,h4⟩
 | succ d =>
  rw [zAE]
  by_cases h:ndOk (v[p]'hp)=true∧0≤(v[p]'hp).many
  · rw [if_pos h,if_pos ⟨hB.2 h,by omega⟩]
    rfl
  · rw [if_neg h,if_neg]
    rintro ⟨h1,_⟩;exact h (hB.1 h1)
theorem zJg {v:List Nd} (h:v.length≤512) (h1:∃n l,v=n::l∧n.kind=1):mayV v=decide (zAE 12 v=some []):=by
 rw [Bool.eq_iff_iff,zAs,decide_eq_true_eq];exact ⟨fun k=>k.2.2,fun k=>⟨h,h1,k⟩⟩
theorem zNT {v:List Nd} (h:¬(v.length≤512∧∃n l,v=n::l∧n.kind=1)):mayV v=false:=by
 rw [Bool.eq_false_iff];intro hm;have:=zAs.1 hm;exact h ⟨this.1,this.2.1⟩
def zDI (v:List Nd):Int:=if mayV v=true then 0 else 8
theorem em_l (s:ByteArray):s.toList.isEmpty=s.data.toList.isEmpty:=by rw [ByteArray.toList_eq]
theorem zRG (n:Nd) (x y z:ByteArray) (A:Option Addr) (c:Nat) (w:World) (h:NdAt n x y z A c w) (hs:zAW n) (hk:n.kind=1) (q:Bool) (hq:zCR n=q) :
 Calls prog 113 #[NdV n x y z A c] w fun e w'=>e=.returned (.bool q)∧Below w.heap.size w w':=by
 have HBO:Hid (∀o,Below w.heap.size w (w.alloc o)):=hI fun o=>(Below.refl _ _).alloc (Nat.le_refl _) o
 have HND:Hid (∀W,Below w.heap.size w W→NdAt n x y z A c W):=hI fun W hW=>h.on hW
 have HXS:Hid (x.size≤1000000):=hI (by rw [←ba_l,h.space];exact hs.space);have HYS:Hid (y.size≤1000000):=hI (by rw [←ba_l,h.name];exact hs.name);have HZS:Hid (z.size≤1000000):=hI (by rw [←ba_l,h.text];exact hs.text);have HLN:Hid (n.attrs.length≤1000000):=hI hs.attrs;have HEA:=hI hs.each;have ba:=h.lo;have bb:=h.hi;obtain ⟨m,hm⟩:∃m,n.attrs.length=m:=⟨_,rfl⟩;have HNL:=hI hm;obtain ⟨y9,hmy⟩:∃y9,n.many=y9:=⟨_,rfl⟩;obtain ⟨a1,h1⟩:∃a,okT x.data.toList=a:=⟨_,rfl⟩;obtain ⟨a2,h2⟩:∃a,zAP y.data.toList=a:=⟨_,rfl⟩;obtain ⟨a3,h3⟩:∃a,zDN n.attrs=a:=⟨_,rfl⟩;obtain ⟨a4,h4⟩:∃a,z.toList.isEmpty=a:=⟨_,rfl⟩;obtain ⟨a5,h5⟩:∃a,decide ((0:Int)≤y9)=a:=⟨_,rfl⟩
 have HQ:Hid (q=(a1&&(a2&&(a3&&(a4&&a5))))):=hI (by
  rw [←hq,←h1,←h2,←h3,←h4,←h5,em_l,h.space,h.name,h.text,←hmy];unfold zCR ndOk;rw [if_pos hk]
  cases zAP n.name <;> cases n.text.isEmpty <;> cases okT n.space <;> cases zDN n.attrs <;> cases decide ((0:Int)≤n.many) <;> rfl)
 have H1:=hI h1;have H2:=hI h2;have H3:=hI h3;unfold NdV;rw [hk,hm,hmy];rw [hmy] at ba bb;clear h hs hk hq h1 h2 h3 hm hmy
 cases a1 with
 | false =>
  obtain rfl:q=false:=HQ.out
  go_enter func113,ntmps113
  go_wp2_with (first
   | (go_at_call 155;(with_reducible refine (zCa x _ HXS.out false H1.out).mono ?_);rintro e1 w1 ⟨rfl,hb1⟩;have HB1:Hid (Below w.heap.size w w1):=hI (zA7 (HBO.out _) hb1);have HX1:=hI (zAB (heap_alloc_new w (.cells #[.int .u8 ((1:Nat):Int),.string x,.string y,.slice A m c,.string z,.int .i64 y9] 42)) hb1);have d10:=zAA w1 _ 0 _ _ _ HX1.out;have d11:=zAA w1 _ 1 _ _ _ HX1.out;have d12:=zAA w1 _ 2 _ _ _ HX1.out;have d13:=zAA w1 _ 3 _ _ _ HX1.out;have d14:=zAA w1 _ 4 _ _ _ HX1.out;have d15:=zAA w1 _ 5 _ _ _ HX1.out;clear hb1)
   | fail)
  go_ret
  exact ⟨rfl,HB1.out⟩
 | true =>
  cases a2 with
  | false =>
   obtain rfl:q=false:=HQ.out
   go_enter func113,ntmps113
   go_wp2_with (first
    | (go_at_call 155;(with_reducible refine (zCa x _ HXS.out true H1.out).mono ?_);rintro e1 w1 ⟨rfl,hb1⟩;have HB1:Hid (Below w.heap.size w w1):=hI (zA7 (HBO.out _) hb1);have HX1:=hI (zAB (heap_alloc_new w (.cells #[.int .u8 ((1:Nat):Int),.string x,.string y,.slice A m c,.string z,.int .i64 y9] 42)) hb1);have d10:=zAA w1 _ 0 _ _ _ HX1.out;have d11:=zAA w1 _ 1 _ _ _ HX1.out;have d12:=zAA w1 _ 2 _ _ _ HX1.out;have d13:=zAA w1 _ 3 _ _ _ HX1.out;have d14:=zAA w1 _ 4 _ _ _ HX1.out;have d15:=zAA w1 _ 5 _ _ _ HX1.out;clear hb1)
    | (go_at_call 156;(with_reducible refine (zBY y _ HYS.out false H2.out).mono ?_);rintro e2 w2 ⟨rfl,hb2⟩;have HB2:Hid (Below w.heap.size w w2):=hI (stp HB1.out hb2);have HX2:=hI (zAB HX1.out hb2);have d20:=zAA w2 _ 0 _ _ _ HX2.out;have d21:=zAA w2 _ 1 _ _ _ HX2.out;have d22:=zAA w2 _ 2 _ _ _ HX2.out;have d23:=zAA w2 _ 3 _ _ _ HX2.out;have d24:=zAA w2 _ 4 _ _ _ HX2.out;have d25:=zAA w2 _ 5 _ _ _ HX2.out;clear hb2)
    | fail)
   go_ret
   exact ⟨rfl,HB2.out⟩
  | true =>
   cases a3 with
   | false =>
    obtain rfl:q=false:=HQ.out
    go_enter func113,ntmps113
    go_wp2_with (first
     | (go_at_call 155;(with_reducible refine (zCa x _ HXS.out true H1.out).mono ?_);rintro e1 w1 ⟨rfl,hb1⟩;have HB1:Hid (Below w.heap.size w w1):=hI (zA7 (HBO.out _) hb1);have HX1:=hI (zAB (heap_alloc_new w (.cells #[.int .u8 ((1:Nat):Int),.string x,.string y,.slice A m c,.string z,.int .i64 y9] 42)) hb1);have d10:=zAA w1 _ 0 _ _ _ HX1.out;have d11:=zAA w1 _ 1 _ _ _ HX1.out;have d12:=zAA w1 _ 2 _ _ _ HX1.out;have d13:=zAA w1 _ 3 _ _ _ HX1.out;have d14:=zAA w1 _ 4 _ _ _ HX1.out;have d15:=zAA w1 _ 5 _ _ _ HX1.out;clear hb1)
     | (go_at_call 156;(with_reducible refine (zBY y _ HYS.out true H2.out).mono ?_);rintro e2 w2 ⟨rfl,hb2⟩;have HB2:Hid (Below w.heap.size w w2):=hI (stp HB1.out hb2);have HX2:=hI (zAB HX1.out hb2);have d20:=zAA w2 _ 0 _ _ _ HX2.out;have d21:=zAA w2 _ 1 _ _ _ HX2.out;have d22:=zAA w2 _ 2 _ _ _ HX2.out;have d23:=zAA w2 _ 3 _ _ _ HX2.out;have d24:=zAA w2 _ 4 _ _ _ HX2.out;have d25:=zAA w2 _ 5 _ _ _ HX2.out;clear hb2)
     | (go_at_call 157;(with_reducible refine (zI8 A m c n.attrs _ (HND.out _ HB2.out).rd HNL.out (HNL.out ▸ HLN.out) HEA.out false H3.out).mono ?_);rintro e3 w3 ⟨rfl,hb3⟩;have HB3:Hid (Below w.heap.size w w3):=hI (stp HB2.out hb3);have HX3:=hI (zAB HX2.out hb3);have d30:=zAA w3 _ 0 _ _ _ HX3.out;have d31:=zAA w3 _ 1 _ _ _ HX3.out;have d32:=zAA w3 _ 2 _ _ _ HX3.out;have d33:=zAA w3 _ 3 _ _ _ HX3.out;have d34:=zAA w3 _ 4 _ _ _ HX3.out;have d35:=zAA w3 _ 5 _ _ _ HX3.out;clear hb3)
     | fail)
    go_ret
    exact ⟨rfl,HB3.out⟩
   | true =>
    cases a4 with
    | false =>
     obtain rfl:q=false:=HQ.out
     go_enter func113,ntmps113
     go_wp2_with (first
      | (go_at_call 155;(with_reducible refine (zCa x _ HXS.out true H1.out).mono ?_);rintro e1 w1 ⟨rfl,hb1⟩;have HB1:Hid (Below w.heap.size w w1):=hI (zA7 (HBO.out _) hb1);have HX1:=hI (zAB (heap_alloc_new w (.cells #[.int .u8 ((1:Nat):Int),.string x,.string y,.slice A m c,.string z,.int .i64 y9] 42)) hb1);have d10:=zAA w1 _ 0 _ _ _ HX1.out;have d11:=zAA w1 _ 1 _ _ _ HX1.out;have d12:=zAA w1 _ 2 _ _ _ HX1.out;have d13:=zAA w1 _ 3 _ _ _ HX1.out;have d14:=zAA w1 _ 4 _ _ _ HX1.out;have d15:=zAA w1 _ 5 _ _ _ HX1.out;clear hb1)
      | (go_at_call 156;(with_reducible refine (zBY y _ HYS.out true H2.out).mono ?_);rintro e2 w2 ⟨rfl,hb2⟩;have HB2:Hid (Below w.heap.size w w2):=hI (stp HB1.out hb2);have HX2:=hI (zAB HX1.out hb2);have d20:=zAA w2 _ 0 _ _ _ HX2.out;have d21:=zAA w2 _ 1 _ _ _ HX2.out;have d22:=zAA w2 _ 2 _ _ _ HX2.out;have d23:=zAA w2 _ 3 _ _ _ HX2.out;have d24:=zAA w2 _ 4 _ _ _ HX2.out;have d25:=zAA w2 _ 5 _ _ _ HX2.out;clear hb2)
      | (go_at_call 157;(with_reducible refine (zI8 A m c n.attrs _ (HND.out _ HB2.out).rd HNL.out (HNL.out ▸ HLN.out) HEA.out true H3.out).mono ?_);rintro e3 w3 ⟨rfl,hb3⟩;have HB3:Hid (Below w.heap.size w w3):=hI (stp HB2.out hb3);have HX3:=hI (zAB HX2.out hb3);have d30:=zAA w3 _ 0 _ _ _ HX3.out;have d31:=zAA w3 _ 1 _ _ _ HX3.out;have d32:=zAA w3 _ 2 _ _ _ HX3.out;have d33:=zAA w3 _ 3 _ _ _ HX3.out;have d34:=zAA w3 _ 4 _ _ _ HX3.out;have d35:=zAA w3 _ 5 _ _ _ HX3.out;clear hb3)
      | fail)
     go_ret
     exact ⟨rfl,HB3.out⟩
    | true =>
     obtain rfl:q=a5:=HQ.out
     go_enter func113,ntmps113
     go_wp2_with (first
      | (go_at_call 155;(with_reducible refine (zCa x _ HXS.out true H1.out).mono ?_);rintro e1 w1 ⟨rfl,hb1⟩;have HB1:Hid (Below w.heap.size w w1):=hI (zA7 (HBO.out _) hb1);have HX1:=hI (zAB (heap_alloc_new w (.cells #[.int .u8 ((1:Nat):Int),.string x,.string y,.slice A m c,.string z,.int .i64 y9] 42)) hb1);have d10:=zAA w1 _ 0 _ _ _ HX1.out;have d11:=zAA w1 _ 1 _ _ _ HX1.out;have d12:=zAA w1 _ 2 _ _ _ HX1.out;have d13:=zAA w1 _ 3 _ _ _ HX1.out;have d14:=zAA w1 _ 4 _ _ _ HX1.out;have d15:=zAA w1 _ 5 _ _ _ HX1.out;clear hb1)
      | (go_at_call 156;(with_reducible refine (zBY y _ HYS.out true H2.out).mono ?_);rintro e2 w2 ⟨rfl,hb2⟩;have HB2:Hid (Below w.heap.size w w2):=hI (stp HB1.out hb2);have HX2:=hI (zAB HX1.out hb2);have d20:=zAA w2 _ 0 _ _ _ HX2.out;have d21:=zAA w2 _ 1 _ _ _ HX2.out;have d22:=zAA w2 _ 2 _ _ _ HX2.out;have d23:=zAA w2 _ 3 _ _ _ HX2.out;have d24:=zAA w2 _ 4 _ _ _ HX2.out;have d25:=zAA w2 _ 5 _ _ _ HX2.out;clear hb2)
      | (go_at_call 157;(with_reducible refine (zI8 A m c n.attrs _ (HND.out _ HB2.out).rd HNL.out (HNL.out ▸ HLN.out) HEA.out true H3.out).mono ?_);rintro e3 w3 ⟨rfl,hb3⟩;have HB3:Hid (Below w.heap.size w w3):=hI (stp HB2.out hb3);have HX3:=hI (zAB HX2.out hb3);have d30:=zAA w3 _ 0 _ _ _ HX3.out;have d31:=zAA w3 _ 1 _ _ _ HX3.out;have d32:=zAA w3 _ 2 _ _ _ HX3.out;have d33:=zAA w3 _ 3 _ _ _ HX3.out;have d34:=zAA w3 _ 4 _ _ _ HX3.out;have d35:=zAA w3 _ 5 _ _ _ HX3.out;clear hb3)
      | fail)
     go_ret
     exact ⟨rfl,HB3.out⟩
theorem zRy (n:Nd) (x y z:ByteArray) (A:Option Addr) (c:Nat) (w:World) (h:NdAt n x y z A c w) (hs:zAW n) (hk:n.kind=2) (q:Bool) (hq:zCR n=q) :
 Calls prog 113 #[NdV n x y z A c] w fun e w'=>e=.returned (.bool q)∧Below w.heap.size w w':=by
 have HBO:Hid (∀o,Below w.heap.size w (w.alloc o)):=hI fun o=>(Below.refl _ _).alloc (Nat.le_refl _) o
 have HND:Hid (∀W,Below w.heap.size w W→NdAt n x y z A c W):=hI fun W hW=>h.on hW
 have HXS:Hid (x.size≤1000000):=hI (by rw [←ba_l,h.space];exact hs.space);have HYS:Hid (y.size≤1000000):=hI (by rw [←ba_l,h.name];exact hs.name);have HZS:Hid (z.size≤1000000):=hI (by rw [←ba_l,h.text];exact hs.text);have HLN:Hid (n.attrs.length≤1000000):=hI hs.attrs;have HEA:=hI hs.each;have ba:=h.lo;have bb:=h.hi;obtain ⟨m,hm⟩:∃m,n.attrs.length=m:=⟨_,rfl⟩;have HNL:=hI hm;obtain ⟨y9,hmy⟩:∃y9,n.many=y9:=⟨_,rfl⟩;obtain ⟨a1,h1⟩:∃a,x.toList.isEmpty=a:=⟨_,rfl⟩;obtain ⟨a2,h2⟩:∃a,y.toList.isEmpty=a:=⟨_,rfl⟩;obtain ⟨a3,h3⟩:∃a,((m:Int)==0)=a:=⟨_,rfl⟩;obtain ⟨a4,h4⟩:∃a,(!z.toList.isEmpty)=a:=⟨_,rfl⟩;obtain ⟨a5,h5⟩:∃a,okT z.data.toList=a:=⟨_,rfl⟩;obtain ⟨a6,h6⟩:∃a,(y9==0)=a:=⟨_,rfl⟩
 have HQ:Hid (q=(a1&&(a2&&(a3&&(a4&&(a5&&a6)))))):=hI (by
  have e3:((m:Int)==0)=n.attrs.isEmpty:=by rw [←hm];cases n.attrs <;> simp <;> omega
  have e6:(y9==0)=(decide (n.many=0)&&decide (0≤n.many)):=by rw [hmy,Bool.eq_iff_iff];simp;omega
  rw [←hq,←h1,←h2,←h3,←h4,←h5,←h6,e3,e6,em_l,em_l,em_l,h.space,h.name,h.text];unfold zCR ndOk;rw [if_neg (by omega),if_pos hk]
  cases n.name.isEmpty <;> cases n.space.isEmpty <;> cases n.attrs.isEmpty <;> cases decide (n.many=0) <;> cases n.text.isEmpty <;> cases okT n.text <;> cases decide ((0:Int)≤n.many) <;> rfl)
 have H5:=hI h5;unfold NdV;rw [hk,hm,hmy];rw [hmy] at ba bb;clear h hs hk hq h5 hm hmy
 cases a1 with
 | false =>
  obtain rfl:q=false:=HQ.out
  go_enter func113,ntmps113
  go_wp2_with fail
  go_ret
  exact ⟨rfl,HBO.out _⟩
 | true =>
  cases a2 with
  | false =>
   obtain rfl:q=false:=HQ.out
   go_enter func113,ntmps113
   go_wp2_with fail
   go_ret
   exact ⟨rfl,HBO.out _⟩
  | true =>
   cases a3 with
   | false =>
    obtain rfl:q=false:=HQ.out
    go_enter func113,ntmps113
    go_wp2_with fail
    go_ret
    exact ⟨rfl,HBO.out _⟩
   | true =>
    cases a4 with
    | false =>
     obtain rfl:q=false:=HQ.out
     go_enter func113,ntmps113
     go_wp2_with fail
     go_ret
     exact ⟨rfl,HBO.out _⟩
    | true =>
     cases a5 with
     | false =>
      obtain rfl:q=false:=HQ.out
      go_enter func113,ntmps113
      go_wp2_with (first
       | (go_at_call 155;(with_reducible refine (zCa z _ HZS.out false H5.out).mono ?_);rintro e1 w1 ⟨rfl,hb1⟩;have HB1:Hid (Below w.heap.size w w1):=hI (zA7 (HBO.out _) hb1);have HX1:=hI (zAB (heap_alloc_new w (.cells #[.int .u8 ((2:Nat):Int),.string x,.string y,.slice A m c,.string z,.int .i64 y9] 42)) hb1);have d10:=zAA w1 _ 0 _ _ _ HX1.out;have d11:=zAA w1 _ 1 _ _ _ HX1.out;have d12:=zAA w1 _ 2 _ _ _ HX1.out;have d13:=zAA w1 _ 3 _ _ _ HX1.out;have d14:=zAA w1 _ 4 _ _ _ HX1.out;have d15:=zAA w1 _ 5 _ _ _ HX1.out;clear hb1)
       | fail)
      go_ret
      exact ⟨rfl,HB1.out⟩
     | true =>
      obtain rfl:q=a6:=HQ.out
      go_enter func113,ntmps113
      go_wp2_with (first
       | (go_at_call 155;(with_reducible refine (zCa z _ HZS.out true H5.out).mono ?_);rintro e1 w1 ⟨rfl,hb1⟩;have HB1:Hid (Below w.heap.size w w1):=hI (zA7 (HBO.out _) hb1);have HX1:=hI (zAB (heap_alloc_new w (.cells #[.int .u8 ((2:Nat):Int),.string x,.string y,.slice A m c,.string z,.int .i64 y9] 42)) hb1);have d10:=zAA w1 _ 0 _ _ _ HX1.out;have d11:=zAA w1 _ 1 _ _ _ HX1.out;have d12:=zAA w1 _ 2 _ _ _ HX1.out;have d13:=zAA w1 _ 3 _ _ _ HX1.out;have d14:=zAA w1 _ 4 _ _ _ HX1.out;have d15:=zAA w1 _ 5 _ _ _ HX1.out;clear hb1)
       | fail)
      go_ret
      exact ⟨rfl,HB1.out⟩
theorem zQm (n:Nd) (x y z:ByteArray) (A:Option Addr) (c:Nat) (w:World) (h:NdAt n x y z A c w) (hs:zAW n) (hk1:n.kind≠1) (hk2:n.kind≠2) (q:Bool) (hq:zCR n=q) :
 Calls prog 113 #[NdV n x y z A c] w fun e w'=>e=.returned (.bool q)∧Below w.heap.size w w':=by
 have HBO:Hid (∀o,Below w.heap.size w (w.alloc o)):=hI fun o=>(Below.refl _ _).alloc (Nat.le_refl _) o
 obtain rfl:q=false:=by rw [←hq];unfold zCR ndOk;rw [if_neg hk1,if_neg hk2];rfl
 have f1:((n.kind:Int)==1)=false:=by simp;omega
 have f2:((n.kind:Int)==2)=false:=by simp;omega
 unfold NdV;clear h hs hk1 hk2 hq
 go_enter func113,ntmps113
 go_wp2_with fail
 go_ret
 exact ⟨rfl,HBO.out _⟩
theorem zJY (n:Nd) (x y z:ByteArray) (A:Option Addr) (c:Nat) (w:World) (h:NdAt n x y z A c w) (hs:zAW n) (q:Bool) (hq:zCR n=q) :
 Calls prog 113 #[NdV n x y z A c] w fun e w'=>e=.returned (.bool q)∧Below w.heap.size w w':=by
 by_cases h1:n.kind=1
 · exact zRG n x y z A c w h hs h1 q hq
 · by_cases h2:n.kind=2
   · exact zRy n x y z A c w h hs h2 q hq
   · exact zQm n x y z A c w h hs h1 h2 q hq
end Hx
end Go.Proofs.YtlgppednjkbgiaaGreatDoor
