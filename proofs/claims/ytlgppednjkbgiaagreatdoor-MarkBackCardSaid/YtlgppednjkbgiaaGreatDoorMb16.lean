/-
  Texts of one seat, put together: TrhG, TrhJ, TrhK, TrhL, MkN, SpaA.
-/
import Derived.Test.YtlgppednjkbgiaaGreatDoorMbA
import Derived.Test.YtlgppednjkbgiaaGreatDoorMb15
import Derived.Test.YtlgppednjkbgiaaGreatDoorMb07
import Derived.Test.YtlgppednjkbgiaaGreatDoorMb01
import Derived.Test.YtlgppednjkbgiaaGreatDoorMb11
import Derived.Deep.AppendLies
import Derived.Test.YtlgppednjkbgiaaGreatDoorMb09
import Derived.Test.YtlgppednjkbgiaaGreatDoorMb02
import Derived.Test.YtlgppednjkbgiaaGreatDoorMb14
import Derived.Deep.RegionHeld
import Derived.Shelf.SlMaps.Clone
set_option maxRecDepth 100000
set_option maxHeartbeats 16000000
set_option linter.unusedVariables false
namespace Go.Proofs.YtlgppednjkbgiaaGreatDoor
open Go.RowKit Go.Proofs.Tryz
namespace Hx
open Lx Tr Tx Nmb Es
theorem zRA {v:List Nd} {k:Nat} (hk:k < v.length) (h:rawN (v[k]'hk)=false):rawV v=false:=by
 unfold rawV;rw [List.all_eq_false];exact ⟨_,List.getElem_mem hk,by rw [h];decide⟩
theorem zQ3 {n:Nd} {j:Nat} (hj:j < n.attrs.length) (h:(n.attrs[j]'hj).space≠[]):rawN n=false:=by
 unfold rawN;rw [Bool.and_eq_false_iff]
 right
 rw [List.all_eq_false];exact ⟨_,List.getElem_mem hj,by simpa using h⟩
theorem zQs {n:Nd} (h:n.space≠[]):rawN n=false:=by
 unfold rawN;rw [Bool.and_eq_false_iff]
 left
 simpa using h
theorem zJk {α:Type} {f:α→Bool} {l:List α} {k:Nat} (hk:k < l.length) (h:(l.take k).all f=true) (h2:f (l[k]'hk)=true):(l.take (k+1)).all f=true:=by
 rw [List.take_succ_eq_append_getElem hk,List.all_append,h,List.all_cons,h2]
 rfl
theorem zPi {x:ByteArray} (h:x.data.toList=[]):x=⟨#[]⟩:=by rw [zB4 x,h]
theorem zRi {x:ByteArray} (h:x.data.toList≠[]):(x.toList==[])=false∧¬x.toList=[]:=by
 have:¬x.toList=[]:=by rw [ByteArray.toList_eq];exact h
 exact ⟨by simpa using this,this⟩
theorem zSB (A:Option Addr) (n c:Nat) (v:List Nd) (w:World) (hr:RdB NdS w A v) (hn:v.length=n) (hm:n≤1000000) (hsm:∀x∈v,zAW x) (q:Bool) (h:rawV v=q) :
 Calls prog 135 #[.slice A n c] w fun e w'=>e=.returned (.bool q)∧Below w.heap.size w w':=by
 have HR:=hI hr;have HN:=hI hn;have HM:=hI hm;have HH:=hI h;have HSM:=hI hsm;clear hr hn h hsm
 go_enter func135,ntmps135
 go_wp2_with fail
 go_loopg [9] n (fun gg i wr=>∃k:Nat,k+gg=n∧i=.int .i64 k∧(v.take k).all rawN=true∧Below w.heap.size w wr)
 case atStart=>exact ⟨0,by omega,rfl,rfl,Below.refl _ _⟩
 case round =>
  obtain ⟨k,hkg,rfl,hall,hbw⟩:=hrel;obtain ⟨wo,rfl⟩:∃wo:World,wo=wr:=⟨_,rfl⟩;obtain ⟨g0,rfl⟩:∃g0:Nat,g0=gk:=⟨_,rfl⟩;have hm:=HM.out;have HALL:=hI hall;have HBW:=hI hbw;have HG:=hI hkg
  by_cases hlt:k < n
  · have hk1:k < v.length:=by rw [HN.out];exact hlt
    obtain ⟨b0,off,x,y,t,A1,c1,rfl,hbB,hin,c0,c1',c2,c3,c4,c5⟩:=zCL (HR.out.on hbw) hk1;have hs1:=(HSM.out _ (List.getElem_mem hk1)).attrs;obtain ⟨nd,hnd⟩:∃nd,v[k]'hk1=nd:=⟨_,rfl⟩;have HK1:=hI hk1;have HNO:Hid (rawN nd=false→false=q):=hI fun hf=>by rw [←HH.out];exact (zRA HK1.out (by rw [hnd];exact hf)).symm
    have HYS:Hid (rawN nd=true→(v.take (k+1)).all rawN=true):=hI fun hf=>zJk HK1.out HALL.out (by rw [hnd];exact hf)
    rw [hnd] at hin c0 c3 c5 hs1;have bk:(0:Int)≤(k:Int)∧(k:Int) < (n:Int):=by omega
    have hsp:=hin.space;have HAR:=hI hin.attrs;have HIN:=hI hin;obtain ⟨n1,hn1⟩:∃n1,nd.attrs.length=n1:=⟨_,rfl⟩;have HN1:=hI hn1;rw [hn1] at c3 hs1;obtain ⟨m1,hm1⟩:∃m1,nd.many=m1:=⟨_,rfl⟩;rw [hm1] at c5;obtain ⟨kd,hkd⟩:∃kd,nd.kind=kd:=⟨_,rfl⟩;rw [hkd] at c0
    by_cases hx:nd.space=[]
    · obtain rfl:=zPi (hsp.trans hx)
      have HX:=hI hx;have HLT:=hI hlt;have HBB:=hI hbB;clear hall hbw hnd hin hsp hx hn1 hm1 hkd hkg hbB
      go_wp2_with fail
      go_loopg [19] n1 (fun gg i wi=>∃j:Nat,j+gg=n1∧i=.int .i64 j∧(nd.attrs.take j).all (fun a=>a.space.isEmpty)=true∧Below wo.heap.size wo wi)
      case atStart=>exact ⟨0,by omega,rfl,rfl,by first | exact Below.refl _ _ | exact stpA (Below.refl _ _) _⟩
      case round =>
       obtain ⟨j,hjg,rfl,hal2,hb2⟩:=hrel;have HAL2:=hI hal2;have HB2:=hI hb2;have HJG:=hI hjg;clear c0
       by_cases hlj:j < n1
       · have hj1:j < nd.attrs.length:=by rw [HN1.out];exact hlj
         obtain ⟨b1,of1,x1,y1,z1,rfl,hbB1,hx1,-,-,d0,d1,d2⟩:=zDL (RdB.on (w:=wo) HAR.out hb2) hj1;have bj:(0:Int)≤(j:Int)∧(j:Int) < (n1:Int):=by omega
         by_cases hsx:x1.data.toList=[]
         · have HT:Hid ((nd.attrs.take (j+1)).all (fun a=>a.space.isEmpty)=true):=hI (zJk hj1 hal2 (by rw [←hx1,hsx];rfl))
           obtain rfl:=zPi hsx;clear hal2 hb2 hjg hx1 hsx hbB1
           go_wp2_with fail
           go_roundg (gk - 1)
           case rel=>exact ⟨j+1,by have:=HJG.out;omega,by go_num,HT.out,by first | exact HB2.out | exact stpA HB2.out _⟩
           case measure=>have:=HJG.out;omega
         · obtain rfl:false=q:=HNO.out (zQ3 hj1 (by rw [←hx1];exact hsx))
           obtain ⟨e1,e2⟩:=zRi hsx;clear hal2 hb2 hjg hx1 hsx hbB1
           go_wp2_with fail
           go_ret
           exact ⟨rfl,by first | exact HBW.out.trans (HB2.out.mono HBW.out.size) | exact HBW.out.trans ((stpA HB2.out _).mono HBW.out.size)⟩
       · obtain rfl:j=n1:=by have:=HJG.out;omega
         have HT:=hI (HYS.out (by
          unfold rawN;rw [HX.out];rw [←HN1.out,List.take_length] at hal2;rw [hal2]
          rfl))
         have HE:=hI (HBW.out.trans (hb2.mono HBW.out.size));have hjj:¬((j:Int) < (j:Int)):=by omega
         clear hal2 hb2 hjg
         go_wp2_with fail
         go_roundg (g0 - 1)
         case rel=>exact ⟨k+1,by have:=HG.out;have:=HLT.out;omega,by go_num,HT.out,HE.out⟩
         case measure=>have:=HG.out;have:=HLT.out;omega
    · obtain rfl:false=q:=HNO.out (zQs hx)
      obtain ⟨e1,e2⟩:=zRi (x:=x) (by rw [hsp];exact hx);clear hall hbw hnd hin hsp hx hn1 hm1 hkd hkg hbB
      go_wp2_with fail
      go_ret
      exact ⟨rfl,by first | exact HBW.out | exact stpA HBW.out _⟩
  · obtain rfl:k=n:=by omega
    have hjj:¬((k:Int) < (k:Int)):=by omega
    obtain rfl:true=q:=by
     rw [←HH.out];rw [List.take_of_length_le (by rw [HN.out];exact Nat.le_refl _)] at hall;exact hall.symm
    clear hall hbw hkg
    go_wp2_with fail
    go_ret
    exact ⟨rfl,HBW.out⟩
def pbA (a:At):PB:=(⟨a.name.toArray⟩,⟨a.value.toArray⟩)
theorem zPy (l:List At):(l.map pbA).map zB1=zAk l:=by
 unfold zAk;rw [List.map_map]
 rfl
theorem zO0 {l:List At} {j:Nat} (hj:j < l.length) {y z:ByteArray} (hy:y.data.toList=(l[j]'hj).name) (hz:z.data.toList=(l[j]'hj).value) :
 ((l.take (j+1)).map pbA).flatMap zBV=((l.take j).map pbA).flatMap zBV++[.string y,.string z]:=by
 rw [List.take_succ_eq_append_getElem hj,List.map_append,List.flatMap_append];unfold pbA zBV;rw [List.map_cons,List.map_nil,List.flatMap_cons,List.flatMap_nil,List.append_nil];rw [←hy,←hz,←zB4,←zB4]
theorem zC4 (w:World) (g k:Nat) (cs:Array Value) (T:TypeId) (x:Value) (h:w.heap[g]?=some (.cells cs T (0,0))):(w.setCell ⟨g,k,none⟩ x).heap[g]?=some (.cells (cs.setIfInBounds k x) T (0,0)):=by
 simp [World.setCell,Array.getElem?_modify,h]
structure TagS (w:World) (g4 g5:Nat) (z:Int) (t:ByteArray) (l:List At) (k:Nat) (v:Value) (wr:World):Prop where
 bel:Below w.heap.size w wr
 c4:wr.heap[g4]?=some (.cells zTk 131 (0,0))
 c5:wr.heap[g5]?=some (.cells #[.int .u8 z,.string t,v,.string ⟨#[]⟩] 131 (0,0))
 own:wr.ownsRow (g5+1) 187 2 v k (((l.take k).map pbA).flatMap zBV)
section
variable {w:World} {g4 g5:Nat} {z:Int} {t:ByteArray} {l:List At} {k:Nat} {v:Value} {wr:World}
theorem TagS.below (h:TagS w g4 g5 z t l k v wr) {wr':World} (b:Below wr.heap.size wr wr'):TagS w g4 g5 z t l k v wr' :=
 ⟨stp h.bel b,zAB h.c4 b,zAB h.c5 b,zAF h.own b (Nat.le_refl _)⟩
theorem TagS.cell (h:TagS w g4 g5 z t l k v wr) (j:Nat):wr.cell? ⟨g5,j,none⟩=(#[.int .u8 z,.string t,v,.string ⟨#[]⟩]:Array Value)[j]?:=zAA wr g5 j _ _ _ h.c5
theorem TagS.push {A:Option Addr} {c a4 e4:Nat} {nm vl:ByteArray} {w5 w6:World} {ob:Obj} (h:TagS w g4 g5 z t l k (.slice A k c) w5) (h4:g4 < g5) (hw:w.heap.size≤g4) (hk:k < l.length) (hy:nm.data.toList=(l[k]'hk).name) (hz:vl.data.toList=(l[k]'hk).value)
 (hown:w6.ownsRow (g5+1) 187 2 (.slice (some ⟨a4,0,none⟩) (k+1) e4) (k+1) (((l.take k).map pbA).flatMap zBV++[.string nm,.string vl])) (hgr:(w5.alloc ob).grownBy w6 (Value.slice A k c).ownBlock) :
 TagS w g4 g5 z t l (k+1) (.slice (some ⟨a4,0,none⟩) (k+1) e4) (w6.setCell ⟨g5,2,none⟩ (.slice (some ⟨a4,0,none⟩) (k+1) e4)):=by
 have hne:∀q,q≤g5→some q≠(Value.slice A k c).ownBlock:=fun q hq e=>by have:=(h.own.lt q e.symm).1;omega
 have stay:∀q o,q≤g5→w5.heap[q]?=some o→w6.heap[q]?=some o:=fun q o hq ho=>by
  have h1:=zAB ho (stpA (Below.refl w5.heap.size w5) ob);exact (hgr.block q (Array.getElem?_eq_some_iff.1 h1).1 (hne q hq)).trans h1
 have ho2:=zC4 w6 g5 2 _ _ (.slice (some ⟨a4,0,none⟩) (k+1) e4) (stay g5 _ (Nat.le_refl _) h.c5);have hsz:=h.bel.size;refine ⟨((h.bel.alloc hsz ob).grown hgr (by simp;omega) (fun q hq=>by have:=(h.own.lt q hq).1;omega)).setCell (p:=⟨g5,2,none⟩) (by show _≤g5;omega) _,(zAH w6 g5 2 g4 _ (by omega)).trans (stay g4 _ (by omega) h.c4),by simpa using ho2,?_⟩;have:=zAf hown g5 2 (by omega) (.slice (some ⟨a4,0,none⟩) (k+1) e4);rw [zO0 hk hy hz];exact this
end
def zFr (z:Int) (t:ByteArray) (l:List At) (w:World) (e:Ending) (w':World):Prop:=Below w.heap.size w w'∧∃A c,e=.returned (.agg #[.int .u8 z,.string t,.slice A l.length c,.string ⟨#[]⟩])∧w'.ownsRow w.heap.size 187 2 (.slice A l.length c) l.length ((l.map pbA).flatMap zBV)
theorem TagS.start (w:World) (cs:Array Value) (T:TypeId) (z:Int) (t:ByteArray) (l:List At) (w1:World) (h:Below ((w.alloc (.cells cs T)).alloc (.cells zTk 131)).heap.size ((w.alloc (.cells cs T)).alloc (.cells zTk 131)) w1) :
 TagS w (w.heap.size+1) w1.heap.size z t l 0 (.slice none 0 0) (w1.alloc (.cells #[.int .u8 z,.string t,.slice none 0 0,.string ⟨#[]⟩] 131)):=by
 have h0:=heap_alloc_new (w.alloc (.cells cs T)) (.cells zTk 131);rw [World.size_alloc] at h0;exact ⟨stpA (stp (stpA (stpA (Below.refl _ _) _) _) h) _,zAB (zAB h0 h) (stpA (Below.refl _ _) _),heap_alloc_new _ _,World.ownsRow_nil _ _ _ _⟩
theorem zQL {w:World} {base base' size n:Nat} {e:TypeId} {v:Value} {xs:List Value} (h:w.ownsRow base e size v n xs) (hb:base'≤base):w.ownsRow base' e size v n xs:=by
 refine ⟨h.1,?_⟩;rcases h.2 with h0 | ⟨g,cap,cur,hv,hg,rest⟩
 · exact .inl h0
 · exact .inr ⟨g,cap,cur,hv,Nat.le_trans hb hg,rest⟩
theorem TagS.fin {w wr:World} {g5 k c:Nat} {z:Int} {t:ByteArray} {l:List At} {A:Option Addr} (h:TagS w (w.heap.size+1) g5 z t l k (.slice A k c) wr) (hp:l.length=k) (hg:w.heap.size+1 < g5) (cs:Array Value) :
 zFr z t l w (.returned (.agg #[.int .u8 z,.string t,.slice A k c,.string ⟨#[]⟩])) (wr.setRow (w.heap.size+1) cs):=by
 have h1:=zQL (zD9 h.own (w.heap.size+1) (by omega) cs) (base':=w.heap.size) (by omega);rw [List.take_of_length_le (by omega)] at h1;exact ⟨zDo h.bel (by omega) cs,A,c,by rw [hp],by rw [hp];exact h1⟩
theorem zRz (z:Int) (n:Nd) (x y t:ByteArray) (A:Option Addr) (c:Nat) (w:World) (h:NdAt n x y t A c w) (hs:zAW n) :
 Calls prog 137 #[.int .u8 z,NdV n x y t A c] w (zFr z y n.attrs w):=by
 obtain ⟨i0,hi,hz0,hz1,hz2⟩:=info_parts zPj;have HI:=hI hi;have HZ0:=hI hz0;have HZ1:=hI hz1;have HZ2:=hI hz2;unfold NdV;have HR:=hI h.rd;have hys:y.size≤1000000:=by rw [←zAV,h.name];exact hs.name
 have HYS:=hI hys;have hal:=hs.attrs;have HEA:=hI hs.each;obtain ⟨l,hl⟩:∃l,n.attrs=l:=⟨_,rfl⟩;rw [hl] at HR hal HEA;rw [hl];obtain ⟨p,hp⟩:∃p,l.length=p:=⟨_,rfl⟩;have HP:=hI hp;rw [hp] at hal;rw [hp];obtain ⟨kd,hkd⟩:∃kd,n.kind=kd:=⟨_,rfl⟩;obtain ⟨mm,hmm⟩:∃mm,n.many=mm:=⟨_,rfl⟩;rw [hkd,hmm];clear h hs hl hp hkd hmm hi hz0 hz1 hz2 hys
 have HB3:Hid (∀w1,Below ((w.alloc (.cells #[.int .u8 (kd:Int),.string x,.string y,.slice A p c,.string t,.int .i64 mm] 42)).alloc (.cells zTk 131)).heap.size ((w.alloc (.cells #[.int .u8 (kd:Int),.string x,.string y,.slice A p c,.string t,.int .i64 mm] 42)).alloc (.cells zTk 131)) w1→w1.heap[w.heap.size]?=some (.cells #[.int .u8 (kd:Int),.string x,.string y,.slice A p c,.string t,.int .i64 mm] 42 (0,0))∧w.heap.size+1 < w1.heap.size∧TagS w (w.heap.size+1) w1.heap.size z y l 0 (.slice none 0 0) (w1.alloc (.cells #[.int .u8 z,.string y,.slice none 0 0,.string ⟨#[]⟩] 131))):=hI fun w1 hb =>
  ⟨zAB (zAB (heap_alloc_new w _) (stpA (Below.refl _ _) _)) hb,by have:=hb.size;simp at this;omega,TagS.start w _ _ z y l w1 hb⟩
 go_enter func137,ntmps137
 go_wp2_with (first
  | (go_at_call 87;(with_reducible refine (zBk y _ HYS.out).mono ?_);rintro e1 w1 ⟨rfl,hb1⟩;have HG:Hid (w.heap.size+1 < w1.heap.size):=hI (HB3.out w1 hb1).2.1;have HST:=hI (HB3.out w1 hb1).2.2;have k3:(w1.alloc (.cells #[.int .u8 z,.string y,.slice none 0 0,.string ⟨#[]⟩] 131)).cell? ⟨w.heap.size,3,none⟩=some (.slice A p c):=zAA _ _ 3 _ _ _ (zAB (HB3.out w1 hb1).1 (stpA (Below.refl _ _) _));clear hb1)
  | (refine wpList_store_row rfl _ _ _ rfl w1.heap.size #[.int .u8 z,.string y,.slice none 0 0,.string ⟨#[]⟩] rfl rfl 131 zTk (heap_alloc_new _ _) zAo rfl (zCs _ _ _ _) ?_;rw [World.setRow_alloc_new])
  | fail)
 go_loopg [16] p (fun gg i wr=>∃(k:Nat) (v:Value),k+gg=p∧i=.int .i64 k∧TagS w (w.heap.size+1) w1.heap.size z y l k v wr)
 case atStart=>exact ⟨0,_,by omega,rfl,HST.out⟩
 case round =>
  obtain ⟨k,v,hkg,rfl,hst⟩:=hrel;obtain ⟨Aa,ca,rfl⟩:=zAD hst.own;have HS:=hI hst
  by_cases hlt:k < p
  · have hk1:k < l.length:=by rw [HP.out];exact hlt
    obtain ⟨b0,off,x1,y1,z1,rfl,hbB,hx,hy,hz,c0,c1,c2⟩:=zDL (HR.out.on hst.bel) hk1;have hea:=HEA.out _ (List.getElem_mem hk1);rw [←hy,←hz,ba_l,ba_l] at hea;have HY1:=hI hea.2.1;have HZ1':=hI hea.2.2;have HYE:=hI hy;have HZE:=hI hz;have HK1:=hI hk1;have HKP:Hid (k+1≤1000000):=hI (by omega);have bk:(0:Int)≤(k:Int)∧(k:Int) < (p:Int):=by omega
    obtain ⟨W0,hW0⟩:∃W0,wr.alloc (.cells #[.string x1,.string y1,.string z1] 44)=W0:=⟨_,rfl⟩;have HW0:Hid (W0.heap[wr.heap.size]?=some (.cells #[.string x1,.string y1,.string z1] 44 (0,0))):=hI (by rw [←hW0];exact heap_alloc_new wr _);have HS0:Hid (TagS w (w.heap.size+1) w1.heap.size z y l k (.slice Aa k ca) W0):=hI (by rw [←hW0];exact hst.below (stpA (Below.refl _ _) _));have HLT:Hid (w1.heap.size < wr.heap.size):=hI (zAY hst.c5);clear hst hx hy hz hea hbB
    go_wp2_with fail
    clear c0 c1 c2
    try rw [hW0]
    clear hW0;refine wp_region_noPanic ?_;refine zAN (fun W=>W.cell? ⟨w1.heap.size,2,none⟩=some (.slice Aa k ca)∧W.cell? ⟨wr.heap.size,1,none⟩=some (.string y1)∧W.cell? ⟨wr.heap.size,2,none⟩=some (.string z1)) 12 (by kernel_rfl) ?_;have hS:W0.drew.cell? ⟨w1.heap.size,2,none⟩=some (.slice Aa k ca)∧W0.drew.cell? ⟨wr.heap.size,1,none⟩=some (.string y1)∧W0.drew.cell? ⟨wr.heap.size,2,none⟩=some (.string z1):=⟨HS0.out.cell 2,zAA W0 _ 1 _ _ _ HW0.out,zAA W0 _ 2 _ _ _ HW0.out⟩;refine tkZ (i:=0) (v:=.pointer (some ⟨w1.heap.size,2,none⟩)) rfl (Or.inl ⟨by rfl,?_⟩) hS ?_
    · intro w' hSw;(try dsimp only at hSw);go_simp
    try simp only [Act.put,sTA,sTB,sTC]
    refine tkZ (i:=1) (v:=.slice Aa k ca) rfl (Or.inl ⟨by rfl,?_⟩) hS ?_
    · intro w' hSw;(try dsimp only at hSw);go_simp
    try simp only [Act.put,sTA,sTB,sTC]
    refine tkZ (i:=2) (v:=.pointer (some ⟨wr.heap.size,1,none⟩)) rfl (Or.inl ⟨by rfl,?_⟩) hS ?_
    · intro w' hSw;(try dsimp only at hSw);go_simp
    try simp only [Act.put,sTA,sTB,sTC]
    refine tkZ (i:=3) (v:=.string y1) rfl (Or.inl ⟨by rfl,?_⟩) hS ?_
    · intro w' hSw;(try dsimp only at hSw);go_simp
    try simp only [Act.put,sTA,sTB,sTC]
    refine tkZ (i:=5) (v:=.pointer (some ⟨wr.heap.size,2,none⟩)) rfl (Or.inl ⟨by rfl,?_⟩) hS ?_
    · intro w' hSw;(try dsimp only at hSw);go_simp
    try simp only [Act.put,sTA,sTB,sTC]
    refine tkZ (i:=6) (v:=.string z1) rfl (Or.inl ⟨by rfl,?_⟩) hS ?_
    · intro w' hSw;(try dsimp only at hSw);go_simp
    try simp only [Act.put,sTA,sTB,sTC]
    refine zAS (i:=4) (by kernel_rfl) rfl (fun K hK=>?_)
    go_simp
    go_at_call 87;(with_reducible refine (zBk y1 _ HY1.out).mono ?_);rintro e5 w5 ⟨rfl,hb5⟩
    have HS5:Hid (TagS w (w.heap.size+1) w1.heap.size z y l k (.slice Aa k ca) w5):=hI (HS0.out.below (stp (Below.refl _ _).drew hb5));have HW5:Hid (w5.heap[wr.heap.size]?=some (.cells #[.string x1,.string y1,.string z1] 44 (0,0))):=hI (zAB HW0.out (stp (Below.refl _ _).drew hb5));have hS5:w5.cell? ⟨w1.heap.size,2,none⟩=some (.slice Aa k ca)∧w5.cell? ⟨wr.heap.size,1,none⟩=some (.string y1)∧w5.cell? ⟨wr.heap.size,2,none⟩=some (.string z1):=⟨HS5.out.cell 2,zAA w5 _ 1 _ _ _ HW5.out,zAA w5 _ 2 _ _ _ HW5.out⟩
    go_wp2_with fail
    refine hK.out _ _ (fun _=>hS5) (fun _=>?_);clear hK K hb5
    try simp only [Act.put,sTA,sTB,sTC]
    refine zAS (i:=7) (by kernel_rfl) rfl (fun K hK=>?_)
    go_simp
    go_at_call 87;(with_reducible refine (zBk z1 _ HZ1'.out).mono ?_);rintro e6 w6 ⟨rfl,hb6⟩
    have HS6:Hid (TagS w (w.heap.size+1) w1.heap.size z y l k (.slice Aa k ca) w6):=hI (HS5.out.below hb6);have HW6:Hid (w6.heap[wr.heap.size]?=some (.cells #[.string x1,.string y1,.string z1] 44 (0,0))):=hI (zAB HW5.out hb6);have hS6:w6.cell? ⟨w1.heap.size,2,none⟩=some (.slice Aa k ca)∧w6.cell? ⟨wr.heap.size,1,none⟩=some (.string y1)∧w6.cell? ⟨wr.heap.size,2,none⟩=some (.string z1):=⟨HS6.out.cell 2,zAA w6 _ 1 _ _ _ HW6.out,zAA w6 _ 2 _ _ _ HW6.out⟩
    go_wp2_with fail
    refine hK.out _ _ (fun _=>hS6) (fun _=>?_);clear hK K hb6 hS hS5
    try simp only [Act.put,sTA,sTB,sTC]
    refine tkZ (i:=8) (v:=.agg #[.string y1,.string z1]) rfl (Or.inl ⟨by rfl,?_⟩) hS6 ?_
    · intro w' hSw;(try dsimp only at hSw);go_simp
    try simp only [Act.put,sTA,sTB,sTC]
    refine zAS (i:=9) (by kernel_rfl) rfl (fun K hK=>?_)
    go_simp
    have HS7:Hid (TagS w (w.heap.size+1) w1.heap.size z y l k (.slice Aa k ca) (w6.alloc (.cells #[.string y1,.string z1] 187))):=hI (HS6.out.below (stpA (Below.refl _ _) _));have hS7:(w6.alloc (.cells #[.string y1,.string z1] 187)).cell? ⟨w1.heap.size,2,none⟩=some (.slice Aa k ca)∧(w6.alloc (.cells #[.string y1,.string z1] 187)).cell? ⟨wr.heap.size,1,none⟩=some (.string y1)∧(w6.alloc (.cells #[.string y1,.string z1] 187)).cell? ⟨wr.heap.size,2,none⟩=some (.string z1):=⟨HS7.out.cell 2,zAA _ _ 1 _ _ _ (zAB HW6.out (stpA (Below.refl _ _) _)),zAA _ _ 2 _ _ _ (zAB HW6.out (stpA (Below.refl _ _) _))⟩;refine hK.out _ _ (fun _=>hS7) (fun _=>?_);clear hK K
    try simp only [Act.put,sTA,sTB,sTC]
    refine zAS (i:=10) (by kernel_rfl) rfl (fun K hK=>?_);refine step_append_lies _ rfl (.tmp 21) (.tmp 29) 129 rfl (w1.heap.size+1) 187 i0 (.agg #[.string ⟨#[]⟩,.string ⟨#[]⟩]) 2 32 underlying129 HI.out HZ0.out HZ1.out HZ2.out rfl (by decide) _ k _ rfl (zAF HS6.out.own (stpA (Below.refl _ _) _) (Nat.le_refl _)) ⟨w6.heap.size,0,none⟩ 1 1 [.string y1,.string z1] rfl rfl (zAp w6 [.string y1,.string z1] 187 _ rfl) (by simp [Value.oneCell']) (by decide) (by have:=HKP.out;unfold maxLen;omega) (by have:=HKP.out;omega) (by have:=zAY HS6.out.c5;simp;omega) _ rfl ?_;intro g8 c8 w8 hown8 hgr8 hor hlt8;have HP8:=hI (HS6.out.push HG.out (Nat.le_succ _) HK1.out HYE.out HZE.out hown8 hgr8)
    have hst8:∀(q:Nat) (o:Obj),(q=w1.heap.size∨q=wr.heap.size)→w6.heap[q]?=some o→(∀e,(Value.slice Aa k ca).ownBlock=some e→e≠q)→w8.heap[q]?=some o:=fun q o _ ho hne=>by
     have h1:=zAB ho (stpA (Below.refl w6.heap.size w6) (.cells #[.string y1,.string z1] 187));exact (hgr8.block _ (Array.getElem?_eq_some_iff.1 h1).1 (fun e=>hne _ e.symm rfl)).trans h1
    have h8a:=hst8 w1.heap.size _ (.inl rfl) HS6.out.c5 (fun e he=>by have:=(HS6.out.own.lt e he).1;omega);have h8b:=hst8 wr.heap.size _ (.inr rfl) HW6.out (fun e he=>by have:=(HS.out.own.lt e he).2;omega);have k8:w8.cell? ⟨w1.heap.size,2,none⟩=some (.slice Aa k ca)∧w8.cell? ⟨wr.heap.size,1,none⟩=some (.string y1)∧w8.cell? ⟨wr.heap.size,2,none⟩=some (.string z1):=⟨zAA w8 _ 2 _ _ _ h8a,zAA w8 _ 1 _ _ _ h8b,zAA w8 _ 2 _ _ _ h8b⟩;have f8:w8.frozen? ⟨w1.heap.size,2,none⟩=false:=zAZ w8 _ 2 _ _ h8a;clear hown8 hgr8 hor h8a h8b hst8;refine hK.out _ _ (fun _=>k8) (fun _=>?_);clear hK K
    try simp only [Act.put,sTA,sTB,sTC]
    refine tkZ (i:=11) (v:=.pointer (some ⟨w1.heap.size,2,none⟩)) rfl (Or.inl ⟨by rfl,?_⟩) k8 ?_
    · intro w' hSw;(try dsimp only at hSw);go_simp
    try simp only [Act.put,sTA,sTB,sTC]
    refine zAS (i:=12) (by kernel_rfl) rfl (fun K hK=>?_);have k82:=k8.1
    go_simp
    refine hK.out _ _ (fun h=>absurd rfl h) (fun _=>?_);clear hK K
    try simp only [Act.put,sTA,sTB,sTC]
    refine zCU (by kernel_rfl) ?_ _;refine NoPanic.normal ?_
    go_wp2_with fail
    go_roundg (gk - 1)
    case rel=>exact ⟨k+1,_,by omega,by go_num,HP8.out⟩
    case measure=>omega
  · obtain rfl:k=p:=by omega
    have hjj:¬((k:Int) < (k:Int)):=by omega
    clear hst
    go_wp2_with (first
     | (refine wpList_load_row rfl _ _ rfl w1.heap.size rfl 131 #[.int .u8 z,.string y,.slice Aa k ca,.string ⟨#[]⟩] (0,0) _ HS.out.c5 underlying131 rfl zAo ?_)
     | (refine wpList_store_row rfl _ _ _ rfl (w.heap.size+1) #[.int .u8 z,.string y,.slice Aa k ca,.string ⟨#[]⟩] rfl rfl 131 zTk HS.out.c4 zAo rfl (zCs _ _ _ _) ?_)
     | fail)
    (try simp only [Exit.inBlock,Exit.then,Exit.noGoto])
    exact bodyPost_ret (v:=.agg #[.int .u8 z,.string y,.slice Aa k ca,.string ⟨#[]⟩]) (results_cell_row rfl _ _ _ _ _ _ _ rfl (setRow_heap _ _ _ #[.int .u8 z,.string y,.slice Aa k ca,.string ⟨#[]⟩] _ _ HS.out.c4) underlying131 rfl zAo) rfl
     (HS.out.fin HP.out HG.out _)
end Hx
namespace Hx
open Lx Tr Tx Nmb Es Ns
def PBox (B:Nat) (s:ByteArray) (a:Option Addr) (n c:Nat) (a':Option Addr) (n' c':Nat) (o:ByteArray) (w:World):Prop :=
 w.heap[B]?=some (.cells #[.string s,.slice a n c,.slice a' n' c',.string o] 85 (0,0))
section
variable {B:Nat} {s o:ByteArray} {a a':Option Addr} {n c n' c':Nat} {w w':World}
theorem PBox.at (h:PBox B s a n c a' n' c' o w) (i:Nat) (v:Value) (hv:w.cell? ⟨B,i,none⟩=some v):(i=0∨i=3)∧(∃t,v=.string t)∨(i=1∨i=2)∧∃x m d,v=.slice x m d:=by
 rw [zAA w B i _ _ _ h] at hv
 match i,hv with
 | 0,hv=>exact .inl ⟨.inl rfl,_,(Option.some.inj hv).symm⟩
 | 1,hv=>exact .inr ⟨.inl rfl,_,_,_,(Option.some.inj hv).symm⟩
 | 2,hv=>exact .inr ⟨.inr rfl,_,_,_,(Option.some.inj hv).symm⟩
 | 3,hv=>exact .inl ⟨.inr rfl,_,(Option.some.inj hv).symm⟩
 | k+4,hv=>simp at hv
def But (B:Nat) (w w':World):Prop:=w.heap.size≤w'.heap.size∧∀b x,b≠B→b < w.heap.size→w'.cell? ⟨b,x,none⟩=w.cell? ⟨b,x,none⟩
theorem But.set (w:World) (B k:Nat) (v:Value):But B w (w.setCell ⟨B,k,none⟩ v):=⟨by rw [World.size_setCell];exact Nat.le_refl _,fun b x h _=>World.cell?_setCell_far w ⟨B,k,none⟩ ⟨b,x,none⟩ v (fun e=>h e.symm)⟩
theorem PBox.prs {A:Option Addr} {l:List Pr} (hP:PBox B s a n c a' n' c' o w) (h:RdC PrC w w.heap.size A l) (hb:But B w w'):RdC PrC w' w'.heap.size A l:=by
 intro hp;obtain ⟨b,off,e,hlt,hc⟩:=h hp
 have hne:b≠B:=by
  rintro rfl;obtain ⟨cs,⟨s1,t1,rfl,_⟩,h2⟩:=hc 0 hp;have h3:=h2 0 (by simp);have h4:=h2 1 (by simp);rcases hP.at _ _ h3 with ⟨h5,_⟩ | ⟨_,_,_,_,h5⟩
  · rcases hP.at _ _ h4 with ⟨h6,_⟩ | ⟨_,_,_,_,h6⟩
    · rw [Nat.zero_mul] at h5 h6
      omega
    · cases h6
  · cases h5
 refine ⟨b,off,e,Nat.lt_of_lt_of_le hlt hb.1,fun j hj=>?_⟩;obtain ⟨cs,h1,h2⟩:=hc j hj;exact ⟨cs,h1,fun i hi=>(hb.2 b _ hne hlt).trans (h2 i hi)⟩
theorem PBox.tks {A:Option Addr} {l:List Tk} (hP:PBox B s a n c a' n' c' o w) (h:RdC TkC w w.heap.size A l) (hb:But B w w'):RdC TkC w' w'.heap.size A l:=by
 intro hp;obtain ⟨b,off,e,hlt,hc⟩:=h hp
 have hne:b≠B:=by
  rintro rfl;obtain ⟨cs,⟨s1,A1,c1,u1,rfl,_⟩,h2⟩:=hc 0 hp;have h3:=h2 0 (by simp);rcases hP.at _ _ h3 with ⟨_,_,h5⟩ | ⟨_,_,_,_,h5⟩ <;> cases h5
 refine ⟨b,off,e,Nat.lt_of_lt_of_le hlt hb.1,fun j hj=>?_⟩;obtain ⟨cs,⟨s1,A1,c1,u1,k1,k2,k3,k4,k5,k6,k7,k8⟩,h2⟩:=hc j hj;exact ⟨cs,⟨s1,A1,c1,u1,k1,k2,k3,k4,k5,k6,k7,hP.prs k8 hb⟩,fun i hi=>(hb.2 b _ hne hlt).trans (h2 i hi)⟩
theorem PBox.ats {A:Option Addr} {l:List At} (hP:PBox B s a n c a' n' c' o w) (h:RdS AtS w (fun b=>b < w.heap.size) A l) (hb:But B w w'):RdS AtS w' (fun b=>b < w'.heap.size) A l:=by
 intro hp;obtain ⟨b,off,e,hlt,hc⟩:=h hp
 have hne:b≠B:=by
  rintro rfl;obtain ⟨cs,⟨x1,y1,z1,rfl,_⟩,h2⟩:=hc 0 hp;have h3:=h2 0 (by simp);have h4:=h2 1 (by simp);rcases hP.at _ _ h3 with ⟨h5,_⟩ | ⟨_,_,_,_,h5⟩
  · rcases hP.at _ _ h4 with ⟨h6,_⟩ | ⟨_,_,_,_,h6⟩
    · rw [Nat.zero_mul] at h5 h6
      omega
    · cases h6
  · cases h5
 refine ⟨b,off,e,Nat.lt_of_lt_of_le hlt hb.1,fun j hj=>?_⟩;obtain ⟨cs,h1,h2⟩:=hc j hj;exact ⟨cs,h1,fun i hi=>(hb.2 b _ hne hlt).trans (h2 i hi)⟩
theorem PBox.nds {A:Option Addr} {l:List Nd} (hP:PBox B s a n c a' n' c' o w) (h:RdB NdS w A l) (hb:But B w w'):RdB NdS w' A l:=by
 intro hp;obtain ⟨b,off,e,hlt,hc⟩:=h hp
 have hne:b≠B:=by
  rintro rfl;obtain ⟨cs,⟨x1,y1,z1,A1,c1,rfl,_⟩,h2⟩:=hc 0 hp;have h3:=h2 0 (by simp [zBp]);rcases hP.at _ _ h3 with ⟨_,_,h5⟩ | ⟨_,_,_,_,h5⟩ <;> cases h5
 refine ⟨b,off,e,Nat.lt_of_lt_of_le hlt hb.1,fun j hj=>?_⟩;obtain ⟨cs,⟨x1,y1,z1,A1,c1,k1,k2⟩,h2⟩:=hc j hj;exact ⟨cs,⟨x1,y1,z1,A1,c1,k1,⟨k2.space,k2.name,k2.text,hP.ats k2.attrs hb,k2.le,k2.cm,k2.nil,k2.kd,k2.lo,k2.hi⟩⟩,fun i hi=>(hb.2 b _ hne hlt).trans (h2 i hi)⟩
theorem PBox.on (h:PBox B s a n c a' n' c' o w) (hb:Below w.heap.size w w'):PBox B s a n c a' n' c' o w':=zAB h hb
theorem PBox.set0 (h:PBox B s a n c a' n' c' o w) (x:ByteArray):PBox B x a n c a' n' c' o (w.setCell ⟨B,0,none⟩ (.string x)):=zC4 w B 0 _ _ (.string x) h
theorem PBox.set1 (h:PBox B s a n c a' n' c' o w) (A:Option Addr) (m d:Nat):PBox B s A m d a' n' c' o (w.setCell ⟨B,1,none⟩ (.slice A m d)):=zC4 w B 1 _ _ (.slice A m d) h
theorem PBox.set2 (h:PBox B s a n c a' n' c' o w) (A:Option Addr) (m d:Nat):PBox B s a n c A m d o (w.setCell ⟨B,2,none⟩ (.slice A m d)):=zC4 w B 2 _ _ (.slice A m d) h
end
theorem zFh {w w1:World} (hb:Below w.heap.size w w1) (B k:Nat) (v:Value):w.grownBy (w1.setCell ⟨B,k,none⟩ v) (some B) :=
 ⟨hb.os,hb.tape,hb.output,by rw [World.size_setCell];exact hb.size,fun j hj hne=>(Below.heap_setCell w1 ⟨B,k,none⟩ v j (fun e=>hne (by rw [e]))).trans (hb.block j hj)⟩
theorem zOz {w0 w w1:World} {B:Nat} (h:Below w0.heap.size w0 w) (hg:w.grownBy w1 (some B)) (hB:w0.heap.size≤B):Below w0.heap.size w0 w1 :=
 h.trans ⟨hg.os,hg.tape,hg.output,hg.size,fun k hk=>hg.block k (Nat.lt_of_lt_of_le hk h.size) (fun e=>by injection e with e;omega)⟩
theorem zPV {w w1:World} {B R:Nat} {o:Obj} (hg:w.grownBy w1 (some B)) (h:w.heap[R]?=some o) (hR:R≠B):w1.heap[R]?=some o :=
 (hg.block R (zAY h) (fun e=>hR (by injection e))).trans h
def TxB (B:Nat) (s o:ByteArray) (w:World):Prop:=∃a n c a' n' c',PBox B s a n c a' n' c' o w
def TkB (B:Nat) (o:ByteArray) (ts:List Tk) (w:World):Prop:=∃s A c a' n' c',PBox B s A ts.length c a' n' c' o w∧RdC TkC w w.heap.size A ts
def TrB (B:Nat) (o:ByteArray) (v:List Nd) (w:World):Prop:=∃s a n c A c',PBox B s a n c A v.length c' o w∧RdB NdS w A v
theorem TxB.lt {B:Nat} {s o:ByteArray} {w:World} (h:TxB B s o w):B < w.heap.size:=by
 obtain ⟨a,n,c,a',n',c',h⟩:=h;exact zAY h
theorem TrB.lt {B:Nat} {o:ByteArray} {v:List Nd} {w:World} (h:TrB B o v w):B < w.heap.size:=by
 obtain ⟨s,a,n,c,A,c',h,_⟩:=h;exact zAY h
theorem TxB.on {B:Nat} {s o:ByteArray} {w w':World} (h:TxB B s o w) (hb:Below w.heap.size w w'):TxB B s o w':=by
 obtain ⟨a,n,c,a',n',c',h⟩:=h;exact ⟨a,n,c,a',n',c',h.on hb⟩
theorem TkB.on {B:Nat} {o:ByteArray} {ts:List Tk} {w w':World} (h:TkB B o ts w) (hb:Below w.heap.size w w'):TkB B o ts w':=by
 obtain ⟨s,A,c,a',n',c',h,hr⟩:=h;exact ⟨s,A,c,a',n',c',h.on hb,hr.on hb⟩
theorem TrB.on {B:Nat} {o:ByteArray} {v:List Nd} {w w':World} (h:TrB B o v w) (hb:Below w.heap.size w w'):TrB B o v w':=by
 obtain ⟨s,a,n,c,A,c',h,hr⟩:=h;exact ⟨s,a,n,c,A,c',h.on hb,hr.on hb⟩
def errV (z:Int):Value:=if z=0 then .nilIface else .iface 25 (.int .i64 z)
theorem zPx:errV 0=.nilIface:=rfl
theorem zBt {z:Int} (h:z≠0):errV z=.iface 25 (.int .i64 z):=if_neg h
theorem zD4 (z:Int) (w:World):Calls prog 100 #[.int .i64 z] w fun e w'=>e=.returned (errV z)∧w'=w:=by
 by_cases h:z=0
 · subst h
   rw [zPx]
   go_enter func100,ntmps100
   go_wp2
   go_ret
   exact ⟨rfl,rfl⟩
 · rw [zBt h]
   have fz:(z==0)=false:=by simp;exact h
   go_enter func100,ntmps100
   go_wp2
   go_ret
   exact ⟨rfl,rfl⟩
def atV (a:AB):Value:=.agg #[.string a.x,.string a.y,.string a.z]
def keyV (k:List UInt8):Value:=.string ⟨k.toArray⟩
def zBs:List (List UInt8 × AB)→List UInt8→Option AB
 | [],_=>none
 | p::D,k=>if p.1=k then some p.2 else zBs D k
def insD:List (List UInt8 × AB)→List UInt8→AB→List (List UInt8 × AB)
 | [],k,a=>[(k,a)]
 | p::D,k,a=>if p.1=k then (k,a)::D else p::insD D k a
theorem zDa:∀(D:List (List UInt8 × AB)) (k:List UInt8) (a:AB) (j:List UInt8),zBs (insD D k a) j=if k=j then some a else zBs D j
 | [],k,a,j=>rfl
 | p::D,k,a,j=>by
  rw [insD]
  by_cases h:p.1=k
  · rw [if_pos h,zBs,zBs]
    by_cases hj:k=j
    · rw [if_pos hj,if_pos hj]
    · rw [if_neg hj,if_neg hj,if_neg (by rw [h];exact hj)]
  · rw [if_neg h,zBs,zBs,zDa D k a j]
    by_cases hj:p.1=j
    · rw [if_pos hj,if_pos hj,if_neg (by rw [←hj];exact fun e=>h e.symm)]
    · rw [if_neg hj,if_neg hj]
def MapD (w:World) (b:Nat) (D:List (List UInt8 × AB)):Prop:=∃(es:Array MapEntry) (clock:Nat),w.heap[b]?=some (.map es clock)∧es.toList.map (fun e=>(e.key,e.val))=D.map fun p=>(keyV p.1,atV p.2)
theorem MapD.kept {w w':World} {b:Nat} {D:List (List UInt8 × AB)} (h:MapD w b D) (hb:w'.heap[b]?=w.heap[b]?):MapD w' b D:=by
 obtain ⟨es,clock,h1,h2⟩:=h;exact ⟨es,clock,hb.trans h1,h2⟩
theorem zMB (k j:List UInt8):Instr.sameNow .string (keyV k) (keyV j)=some (decide (k=j)):=by
 obtain ⟨r,h1,h2⟩:=MapKept.sameNow_of_keys (d:=.string) (a:=keyV k) (b:=keyV j) trivial trivial;rw [h1]
 congr 1
 by_cases h:k=j
 · rw [decide_eq_true h]
   exact h2.2 (by rw [h])
 · rw [decide_eq_false h]
   refine Bool.eq_false_iff.2 fun hr=>h ?_
   have e:=h2.1 hr;unfold keyV at e;injection e with e;have:=congrArg (fun b:ByteArray=>b.data.toList) e
   simpa using this
theorem zGL (k:List UInt8):∀(es:List MapEntry) (D:List (List UInt8 × AB)) (i:Nat),es.map (fun e=>(e.key,e.val))=D.map (fun p=>(keyV p.1,atV p.2)) →
 (zBs D k=none∧Instr.findNow .string (keyV k) es i=some none∧insD D k=fun a=>D++[(k,a)])∨∃(a:AB) (D1 D2:List (List UInt8 × AB)),zBs D k=some a∧Instr.findNow .string (keyV k) es i=some (some (i+D1.length,atV a))∧D=D1++(k,a)::D2∧insD D k=fun a'=>D1++(k,a')::D2
 | [],[],i,_=>.inl ⟨rfl,rfl,rfl⟩
 | [],_::_,i,h=>by cases h
 | _::_,[],i,h=>by cases h
 | e::es,p::D,i,h=>by
  rw [List.map_cons,List.map_cons] at h;injection h with h1 h2;injection h1 with h3 h4;rw [zBs,Instr.findNow,h3,zMB]
  by_cases hp:p.1=k
  · right
    refine ⟨p.2,[],D,by rw [if_pos hp],?_,by rw [←hp];rfl,by funext a;rw [insD,if_pos hp];rfl⟩;rw [decide_eq_true hp.symm,h4]
    rfl
  · rw [decide_eq_false fun e=>hp e.symm,if_neg hp]
    rcases zGL k es D (i+1) h2 with ⟨k1,k2,k3⟩ | ⟨a,D1,D2,k1,k2,k3,k4⟩
    · left
      refine ⟨k1,k2,?_⟩
      funext a
      rw [insD,if_neg hp,k3]
      rfl
    · right
      refine ⟨a,p::D1,D2,k1,?_,by rw [k3];rfl,by funext a';rw [insD,if_neg hp,k4];rfl⟩;dsimp only;rw [k2,List.length_cons]
      congr 3
      omega
theorem zFp:prog.underlying 65=some (.map 9 44):=by kernel_rfl
theorem zHf {w:World} {b:Nat} {D:List (List UInt8 × AB)} (h:MapD w b D) (s:ByteArray) (k:List UInt8) (hs:s.data.toList=k) :
 (Instr.lookup 65 (.map (some b)) (.string s) true).run prog w=.ok (.tuple #[atV ((zBs D k).getD ⟨⟨#[]⟩,⟨#[]⟩,⟨#[]⟩⟩),.bool (zBs D k).isSome]) w:=by
 obtain ⟨es,clock,hb,he⟩:=h;have hkv:Value.string s=keyV k:=by unfold keyV;rw [←hs,←zB4 s]
 rw [hkv];have hk:MapKept.IsKey .string (keyV k):=trivial;have hc:=MapKept.run_checkKey (w:=w) underlying9 hk es.isEmpty 9999;rcases zGL k es.toList D 0 he with ⟨k1,k2,_⟩ | ⟨a,D1,D2,k1,k2,_,_⟩
 · have hf:=MapKept.run_findKey (w:=w) underlying9 k2
   rw [k1]
   simp [Instr.lookup,run_underlying zFp,MapKept.run_getObj_map hb,hc,hf,Result.andThen,atV]
 · have hf:=MapKept.run_findKey (w:=w) underlying9 k2
   rw [k1]
   simp [Instr.lookup,run_underlying zFp,MapKept.run_getObj_map hb,hc,hf,Result.andThen]
theorem zDj {w:World} {b:Nat} {D:List (List UInt8 × AB)} (h:MapD w b D) (s:ByteArray) (k:List UInt8) (hs:s.data.toList=k) (a:AB) :
 ∃w',(Instr.mapUpdate 65 (.map (some b)) (.string s) (atV a)).run prog w=.ok () w'∧MapD w' b (insD D k a)∧w'.heap.size=w.heap.size∧(∀q,q≠b→w'.heap[q]?=w.heap[q]?)∧∀B,B≤b→Below B w w':=by
 obtain ⟨es,clock,hb,he⟩:=h;have hkv:Value.string s=keyV k:=by unfold keyV;rw [←hs,←zB4 s]
 rw [hkv];have hk:MapKept.IsKey .string (keyV k):=trivial;have hc:=MapKept.run_checkKey (w:=w) underlying9 hk false 9999;have hbel:∀(o:Obj) (B:Nat),B≤b→Below B w { w with heap:=w.heap.setIfInBounds b o }:=fun o B hB=>⟨rfl,rfl,rfl,by simp,fun q hq=>(MapKept.heap_set hb).2 q (by omega)⟩
 rcases zGL k es.toList D 0 he with ⟨k1,k2,k3⟩ | ⟨a0,D1,D2,k1,k2,k3,k4⟩
 · have hf:=MapKept.run_findKey (w:=w) underlying9 k2
   refine ⟨_,?_,⟨_,_,(MapKept.heap_set (o':=.map (es.push ⟨keyV k,atV a,clock⟩) (clock+1)) hb).1,?_⟩,by simp,(MapKept.heap_set hb).2,hbel _⟩
   · simp [Instr.mapUpdate,run_underlying zFp,MapKept.run_getObj_map hb,hc,hf,MapKept.run_setObj_map _ hb,Result.andThen]
   · rw [k3]
     simp [he]
 · have hf:=MapKept.run_findKey (w:=w) underlying9 k2
   rw [Nat.zero_add] at hf;have hlen:es.toList.length=D.length:=by have:=congrArg List.length he;simpa using this
   have hj:D1.length < es.size:=by rw [←Array.length_toList,hlen,k3];simp
   have hkey:(es[D1.length]'hj).key=keyV k:=by
    have:=congrArg (fun l=>l[D1.length]?) he
    simp [k3] at this
    obtain ⟨e0,h1,h2,_⟩:=this;rw [Array.getElem?_eq_getElem hj] at h1;rw [Option.some.inj h1];exact h2
   have hst:=MapKept.run_keyThatStays (P:=prog) (w:=w) hk;refine ⟨_,?_,⟨_,_,(MapKept.heap_set (o':=.map (es.modify D1.length fun e=>{ e with key:=keyV k,val:=atV a }) clock) hb).1,?_⟩,by simp,(MapKept.heap_set hb).2,hbel _⟩
   · simp [Instr.mapUpdate,run_underlying zFp,MapKept.run_getObj_map hb,hc,hf,hkey,hst,hj,MapKept.run_setObj_map _ hb,Result.andThen]
   · rw [k4,Array.toList_modify]
     rw [k3] at he
     have hs:es.toList=es.toList.take D1.length++(es[D1.length]'hj)::es.toList.drop (D1.length+1):=by
      rw [←Array.getElem_toList,←List.drop_eq_getElem_cons (by simpa using hj),List.take_append_drop]
     have hl1:(es.toList.take D1.length).length=D1.length:=by rw [List.length_take,Array.length_toList];exact Nat.min_eq_left (Nat.le_of_lt hj)
     obtain ⟨l1,hl1'⟩:∃l1,es.toList.take D1.length=l1:=⟨_,rfl⟩;obtain ⟨l2,hl2'⟩:∃l2,es.toList.drop (D1.length+1)=l2:=⟨_,rfl⟩;obtain ⟨x,hx⟩:∃x,es[D1.length]'hj=x:=⟨_,rfl⟩;rw [hl1',hl2',hx] at hs;rw [hl1'] at hl1;rw [hs] at he ⊢;rw [List.map_append,List.map_append,List.map_cons,List.map_cons] at he;obtain ⟨e1,e2⟩:=List.append_inj he (by rw [List.length_map,List.length_map,hl1]);have e3:=(List.cons.inj e2).2
     have hmod:∀(l1:List MapEntry) (x:MapEntry) (l2:List MapEntry) (f:MapEntry→MapEntry),(l1++x::l2).modify l1.length f=l1++f x::l2:=fun l1 x l2 f=>by
      induction l1 with
      | nil=>rfl
      | cons y l1 ih=>rw [List.cons_append,List.length_cons,List.modify_succ_cons,ih];rfl
     rw [←hl1,hmod,List.map_append,List.map_append,List.map_cons,List.map_cons,e1,e3]
theorem zPv (b:Nat) (D:List (List UInt8 × AB)) (w:World) (h:MapD w b D):Calls prog 40 #[.map (some b)] w fun e w'=>e=.returned (.map (some w.heap.size))∧MapD w' w.heap.size D∧Below w.heap.size w w'∧w'.heap.size=w.heap.size+1:=by
 obtain ⟨es,clock,hb,he⟩:=h;have hq:=fun w=>run_eql_map_nil_sl (P:=prog) w 65 _ _ (some b) zFp
 go_enter func40,ntmps40
 go_wp2
 rw [run_callFunc_extern func80 (by kernel_rfl) (by kernel_rfl) (by kernel_rfl) (e:=Extern.MapsClone.clone) (by kernel_rfl),run_maps_clone_sl w 65 hb];simp only [Result.andThen];rw [Oper.upon_value]
 go_wp2
 rw [run_typeAssert_map_sl _ 65 _ _ _ _ zFp];simp only [Result.andThen];rw [Oper.upon_value]
 go_wp2
 go_ret
 exact ⟨rfl,⟨es,clock,heap_alloc_new w _,he⟩,stpA (Below.refl _ _) _,World.size_alloc ..⟩
end Hx
end Go.Proofs.YtlgppednjkbgiaaGreatDoor
