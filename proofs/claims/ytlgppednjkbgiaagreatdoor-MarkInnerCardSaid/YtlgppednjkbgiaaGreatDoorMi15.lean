/- Texts put together. -/
import Derived.Test.YtlgppednjkbgiaaGreatDoorMiA
import Derived.Test.YtlgppednjkbgiaaGreatDoorMi11
import Derived.Test.YtlgppednjkbgiaaGreatDoorMi14
import Derived.Test.YtlgppednjkbgiaaGreatDoorMi09
import Derived.Deep.RegionHeld3
import Derived.Test.YtlgppednjkbgiaaGreatDoorMi12
import Derived.Test.YtlgppednjkbgiaaGreatDoorMi13
set_option maxRecDepth 100000
set_option maxHeartbeats 16000000
set_option linter.unusedVariables false
namespace Go.Proofs.YtlgppednjkbgiaaGreatDoor
open Go.RowKit Go.Proofs.Tryz
namespace Hx
open Lx Tr Tx Nmb Es
theorem zId:(prog.info? 42).map (·.size)=some 6:=by kernel_rfl
theorem zMW (k:Int) (x y z:ByteArray) (A:Option Addr) (n c:Nat) (m:Int):∀v∈[Value.int .u8 k,.string x,.string y,.slice A n c,.string z,.int .i64 m],v.oneCell'=true:=by simp [Value.oneCell']
theorem zKG {lo:Nat} {w wr w2 w5:World} {L:List NB} {v v5:Value} {n:Nd} {x y z:ByteArray} {A3:Option Addr} {c3:Nat} (h:NdSt lo w L v wr) (hb:Below wr.heap.size wr w2) (hlo:lo≤w.heap.size)
 (hx:x.data.toList=n.space) (hy:y.data.toList=n.name) (hz:z.data.toList=n.text) (hkd:n.kind < 256) (hlo2: -9223372036854775808≤n.many) (hhi:n.many≤9223372036854775807)
 (ho3:w2.ownsRow (wr.heap.size+1) 44 3 (.slice A3 n.attrs.length c3) n.attrs.length ((n.attrs.map abOf).flatMap zAk))
 (hown:w5.ownsRow w.heap.size 42 6 v5 (L.length+1) (L.flatMap zAN++[.int .u8 (n.kind:Int),.string x,.string y,.slice A3 n.attrs.length c3,.string z,.int .i64 n.many]))
 (hgr:w2.grownBy w5 v.ownBlock) (hlie:v5.ownBlock=v.ownBlock∨v5.ownBlock=some w2.heap.size):NdSt lo w (L++[⟨n,x,y,z,A3,c3⟩]) v5 w5:=by
 have hw:=h.2.2.size;obtain ⟨r1,r2,r3,r4,r5⟩:=zPv (lo:=lo) (w0:=w) (row:=v.ownBlock) ho3 (by omega) (fun k hk=>by have:=(h.1.lt k hk).2;omega);refine h.more hb (M:=[⟨n,x,y,z,A3,c3⟩]) (fun b hm=>?_) ?_ hgr hlie
 · rw [List.mem_singleton] at hm
   subst hm;exact ⟨hx,hy,hz,r1,r3,r4,r5,hkd,hlo2,hhi⟩
 · simpa [zAN,zBk] using hown
def zLM (v:List Nd) (w:World) (e:Ending) (w':World):Prop:=∃A c,e=.returned (.slice A v.length c)∧zDq w.heap.size w v A c w'∧Below w.heap.size w w'
theorem zDq.weak {w W w':World} {v:List Nd} {A:Option Addr} {c:Nat} (h:zDq W.heap.size W v A c w') (hs:w.heap.size≤W.heap.size):zDq w.heap.size w v A c w' :=
 ⟨h.rd.mono fun k hk=>⟨Nat.le_trans hs hk.1,hk.2.1,hk.2.2.1,fun _=>hk.2.2.2 hk.1⟩,h.le,h.cm,h.nil⟩
def NBox (B:Nat) (k:Int) (x y z:ByteArray) (v:Value) (m:Int) (w:World):Prop :=
 w.cell? ⟨B,1,none⟩=some (.string x)∧w.cell? ⟨B,2,none⟩=some (.string y)∧w.cell? ⟨B,4,none⟩=some (.string z) ∧
 w.frozen? ⟨B,1,none⟩=false∧w.frozen? ⟨B,2,none⟩=false∧w.frozen? ⟨B,4,none⟩=false∧w.heap[B]?=some (.cells #[.int .u8 k,.string x,.string y,v,.string z,.int .i64 m] 42 (0,0))
theorem NBox.of {B:Nat} {k:Int} {x y z:ByteArray} {v:Value} {m:Int} {w:World} (h:w.heap[B]?=some (.cells #[.int .u8 k,.string x,.string y,v,.string z,.int .i64 m] 42 (0,0))):NBox B k x y z v m w :=
 ⟨zAA w B 1 _ _ _ h,zAA w B 2 _ _ _ h,zAA w B 4 _ _ _ h,zAY w B 1 _ _ h,zAY w B 2 _ _ h,zAY w B 4 _ _ h,h⟩
theorem NBox.below {B:Nat} {k:Int} {x y z:ByteArray} {v:Value} {m:Int} {w w':World} (h:NBox B k x y z v m w) (hb:Below w.heap.size w w'):NBox B k x y z v m w':=NBox.of (zAB h.2.2.2.2.2.2 hb)
theorem NBox.set1 {B:Nat} {k:Int} {x y z:ByteArray} {v:Value} {m:Int} {w:World} (h:NBox B k x y z v m w):NBox B k x y z v m (w.setCell ⟨B,1,none⟩ (.string x)):=NBox.of (heap_setCell_same w B 1 _ _ _ h.2.2.2.2.2.2)
theorem NBox.set2 {B:Nat} {k:Int} {x y z:ByteArray} {v:Value} {m:Int} {w:World} (h:NBox B k x y z v m w):NBox B k x y z v m (w.setCell ⟨B,2,none⟩ (.string y)):=NBox.of (heap_setCell_same w B 2 _ _ _ h.2.2.2.2.2.2)
theorem NBox.set4 {B:Nat} {k:Int} {x y z:ByteArray} {v:Value} {m:Int} {w:World} (h:NBox B k x y z v m w):NBox B k x y z v m (w.setCell ⟨B,4,none⟩ (.string z)):=NBox.of (heap_setCell_same w B 4 _ _ _ h.2.2.2.2.2.2)
def ABox (B:Nat) (x y z:ByteArray) (w:World):Prop :=
 w.cell? ⟨B,0,none⟩=some (.string x)∧w.cell? ⟨B,1,none⟩=some (.string y)∧w.cell? ⟨B,2,none⟩=some (.string z)∧w.heap[B]?=some (.cells #[.string x,.string y,.string z] 44 (0,0))
theorem ABox.of {B:Nat} {x y z:ByteArray} {w:World} (h:w.heap[B]?=some (.cells #[.string x,.string y,.string z] 44 (0,0))):ABox B x y z w:=⟨zAA w B 0 _ _ _ h,zAA w B 1 _ _ _ h,zAA w B 2 _ _ _ h,h⟩
theorem ABox.below {B:Nat} {x y z:ByteArray} {w w':World} (h:ABox B x y z w) (hb:Below w.heap.size w w'):ABox B x y z w':=ABox.of (zAB h.2.2.2 hb)
theorem ABox.grown {B:Nat} {x y z:ByteArray} {w w':World} {row:Option Nat} (h:ABox B x y z w) (hg:w.grownBy w' row) (hne:some B≠row):ABox B x y z w':=ABox.of ((hg.block B (zAc h.2.2.2) hne).trans h.2.2.2)
def AtSt (B:Nat) (box:Obj) (ww:World) (l:List At) (j:Nat) (v:Value) (wi:World):Prop :=
 wi.ownsRow (B+1) 44 3 v j (((l.take j).map abOf).flatMap zAk)∧wi.heap[B]?=some box∧Below ww.heap.size ww wi
theorem AtSt.next {B:Nat} {box:Obj} {ww wi w3 w4:World} {l:List At} {j:Nat} {v v4:Value} {x y z:ByteArray} {o:Obj} (h:AtSt B box ww l j v wi) (hB:ww.heap.size≤B) (hj:j < l.length) (hx:x.data.toList=(l[j]'hj).space) (hy:y.data.toList=(l[j]'hj).name) (hz:z.data.toList=(l[j]'hj).value)
 (hb:Below wi.heap.size wi w3) (hown:w4.ownsRow (B+1) 44 3 v4 (j+1) (((l.take j).map abOf).flatMap zAk++[.string x,.string y,.string z])) (hgr:(w3.alloc o).grownBy w4 v.ownBlock):AtSt B box ww l (j+1) v4 w4:=by
 have hb2:Below wi.heap.size wi (w3.alloc o):=stpA hb _;have h2:=zAB h.2.1 hb2;have hne:∀k,v.ownBlock=some k→B+1≤k:=fun k hk=>(h.1.lt k hk).1
 refine ⟨?_,(hgr.block B (zAc h2) (fun e=>by have:=hne B e.symm;omega)).trans h2,(stp h.2.2 hb2).grown hgr (Nat.le_trans h.2.2.size hb2.size) fun k hk=>by have:=hne k hk;omega⟩
 have ea:abOf (l[j]'hj)=⟨x,y,z⟩:=by
  unfold abOf;rw [←hx,←hy,←hz]
 rw [List.take_succ_eq_append_getElem hj,List.map_append,List.flatMap_append,List.map_singleton,ea]
 simpa [zAk] using hown
theorem zNb (A:Option Addr) (n c:Nat) (v:List Nd) (w:World) (hr:RdB NdS w A v) (hn:v.length=n) (hm:n≤100000) (hsm:∀x∈v,zAV x) :
 Calls prog 43 #[.slice A n c] w (zLM v w):=by
 obtain ⟨i0,hi,hz0,hz1,hz2⟩:=info_parts zE6;obtain ⟨j0,hj,hy0,hy1,hy2⟩:=info_parts zHJ;have HI:=hI hi;have HZ0:=hI hz0;have HZ1:=hI hz1;have HZ2:=hI hz2;have HJ:=hI hj;have HY0:=hI hy0;have HY1:=hI hy1;have HY2:=hI hy2;have HR:=hI hr;have HN:=hI hn;have HM:=hI hm;have HSM:=hI hsm;clear hi hz0 hz1 hz2 hj hy0 hy1 hy2 hr hn hm hsm
 go_enter func43,ntmps43
 go_wp2_with fail
 go_loopg [3,11] n (fun gg x3 i wr=>∃L:List NB,L.length+gg=n∧i=.int .i64 L.length∧L.map NB.n=v.take L.length∧NdSt w.heap.size w L x3 wr)
 case atStart=>exact ⟨[],by simp,rfl,rfl,NdSt.nil _ (Below.refl _ _)⟩
 case round =>
  obtain ⟨L,hk,rfl,hmap,hst⟩:=hrel;obtain ⟨Ao,co,rfl⟩:=zAE hst.1;obtain ⟨ww,rfl⟩:∃ww:World,ww=wr:=⟨_,rfl⟩;obtain ⟨g0,rfl⟩:∃g0:Nat,g0=gk:=⟨_,rfl⟩;have HST:=hI hst;have h6:=HM.out
  by_cases hlt:L.length < n
  · have hk1:L.length < v.length:=by rw [HN.out];exact hlt
    have hbw:=hst.2.2;obtain ⟨b0,off,x,y,z,a1,p1,hA,hbB,hin,c0w,c1w,c2w,c3w,c4w,c5w⟩:=zBz HR.out hk1;obtain ⟨t,ht⟩:∃t,v[L.length]'hk1=t:=⟨_,rfl⟩;have hal:=HSM.out _ (List.getElem_mem hk1);rw [ht] at hin c0w c3w c5w hal;have HM2:Hid ((L.map NB.n)++[t]=v.take (L.length+1)):=hI (by rw [hmap,List.take_succ_eq_append_getElem hk1,ht]);have c0:=(hbw.cell (p:=⟨b0,_,none⟩) hbB).trans c0w;have c1:=(hbw.cell (p:=⟨b0,_,none⟩) hbB).trans c1w;have c2:=(hbw.cell (p:=⟨b0,_,none⟩) hbB).trans c2w;have c3:=(hbw.cell (p:=⟨b0,_,none⟩) hbB).trans c3w;have c4:=(hbw.cell (p:=⟨b0,_,none⟩) hbB).trans c4w;have c5:=(hbw.cell (p:=⟨b0,_,none⟩) hbB).trans c5w;have HIN:=hI hin;have HRP:Hid (∀W,Below w.heap.size w W→RdB AtS W a1 t.attrs):=hI fun W hW=>RdB.on hin.attrs hW
    have HXS:Hid (x.size≤1000000):=hI (by rw [←ba_l,hin.space];exact hal.space);have HYS:Hid (y.size≤1000000):=hI (by rw [←ba_l,hin.name];exact hal.name);have HZS:Hid (z.size≤1000000):=hI (by rw [←ba_l,hin.text];exact hal.text);have HAL:=hI hal;have HBW0:=hI hbw;have HGK:=hI hk;have HLT:=hI hlt;have bk:(0:Int)≤(L.length:Int)∧(L.length:Int) < (n:Int):=by omega
    have bal:(t.attrs.length:Int)≤1000000:=by have:=hal.attrs;omega
    subst hA;clear hst ht hbw hmap hk1 hin hal c0w c1w c2w c3w c4w c5w hbB hk hlt
    go_wp2_with fail
    have hbox:NBox ww.heap.size (t.kind:Int) x y z (.slice a1 t.attrs.length p1) t.many (ww.alloc (.cells #[.int .u8 (t.kind:Int),.string x,.string y,.slice a1 t.attrs.length p1,.string z,.int .i64 t.many] 42)):=NBox.of (heap_alloc_new ww _);have HBX:Hid (NBox ww.heap.size (t.kind:Int) x y z (.slice a1 t.attrs.length p1) t.many (ww.alloc (.cells #[.int .u8 (t.kind:Int),.string x,.string y,.slice a1 t.attrs.length p1,.string z,.int .i64 t.many] 42)).drew):=hI (NBox.of (heap_alloc_new ww _));clear c0 c1 c2 c3 c4 c5
    go_region_held3 (fun w'=>w'.cell? ⟨ww.heap.size,1,none⟩=some (.string x)∧w'.cell? ⟨ww.heap.size,2,none⟩=some (.string y)∧w'.cell? ⟨ww.heap.size,4,none⟩=some (.string z)∧w'.frozen? ⟨ww.heap.size,1,none⟩=false∧w'.frozen? ⟨ww.heap.size,2,none⟩=false∧w'.frozen? ⟨ww.heap.size,4,none⟩=false∧w'.heap[ww.heap.size]?=some (.cells #[.int .u8 (t.kind:Int),.string x,.string y,.slice a1 t.attrs.length p1,.string z,.int .i64 t.many] 42 (0,0)))
     (first | exact HBX.out | exact HBX.out.below hb1 | exact (HBX.out.below hb1).below hb2 | exact ((HBX.out.below hb1).below hb2).below hb3 | exact (((HBX.out.below hb1).below hb2).below hb3).set1 | exact (((HBX.out.below hb1).below hb2).below hb3).set1.set2 | exact (((HBX.out.below hb1).below hb2).below hb3).set1.set2.set4)
     ((first
      | (go_at_call 87;(with_reducible refine (zBj x _ HXS.out).mono ?_);rintro e1 w1 ⟨rfl,hb1⟩)
      | (go_at_call 87;(with_reducible refine (zBj y _ HYS.out).mono ?_);rintro e2 w2 ⟨rfl,hb2⟩)
      | (go_at_call 87;(with_reducible refine (zBj z _ HZS.out).mono ?_);rintro e3 w3 ⟨rfl,hb3⟩)))
    obtain ⟨W5,hW5⟩:∃W5,((w3.setCell ⟨ww.heap.size,1,none⟩ (.string x)).setCell ⟨ww.heap.size,2,none⟩ (.string y)).setCell ⟨ww.heap.size,4,none⟩ (.string z)=W5:=⟨_,rfl⟩;rw [hW5];have HX5:Hid (NBox ww.heap.size (t.kind:Int) x y z (.slice a1 t.attrs.length p1) t.many W5):=hI (by rw [←hW5];exact (((HBX.out.below hb1).below hb2).below hb3).set1.set2.set4);have HB5:Hid (Below ww.heap.size ww W5):=hI (by rw [←hW5];exact (((stp (stp (stp (stpA (Below.refl _ _) _).drew hb1) hb2) hb3).setCell (p:=⟨ww.heap.size,1,none⟩) (Nat.le_refl _) _).setCell (p:=⟨ww.heap.size,2,none⟩) (Nat.le_refl _) _).setCell (p:=⟨ww.heap.size,4,none⟩) (Nat.le_refl _) _);have HA0:Hid (AtSt ww.heap.size (.cells #[.int .u8 (t.kind:Int),.string x,.string y,.slice a1 t.attrs.length p1,.string z,.int .i64 t.many] 42 (0,0)) ww t.attrs 0 (.slice none 0 0) W5):=hI ⟨World.ownsRow_nil _ _ _ _,HX5.out.2.2.2.2.2.2,HB5.out⟩;have k3:=zAA W5 _ 3 _ _ _ HX5.out.2.2.2.2.2.2;clear hW5 hb1 hb2 hb3;rcases a1 with _ | ⟨b2,of2,sp⟩
    · go_wp2_with fail
      go_loopg [6,30] t.attrs.length (fun gg x6 i wi=>∃j:Nat,j+gg=t.attrs.length∧i=.int .i64 j∧AtSt ww.heap.size (.cells #[.int .u8 (t.kind:Int),.string x,.string y,.slice none t.attrs.length p1,.string z,.int .i64 t.many] 42 (0,0)) ww t.attrs j x6 wi)
      case atStart=>exact ⟨0,by omega,rfl,HA0.out⟩
      case round =>
       obtain ⟨j,hjg,rfl,hst⟩:=hrel;obtain ⟨Aa,ca,rfl⟩:=zAE hst.1;have HAS:=hI hst;clear k3
       by_cases hlj:j < t.attrs.length
       · obtain ⟨_,_,_,_,_,e,_⟩:=zDU (HRP.out _ (stp HBW0.out hst.2.2)) hlj
         cases e
       · obtain rfl:j=t.attrs.length:=by omega
         have hown:=hst.1;rw [List.take_length] at hown;have HO3:=hI hown;have k2:=zAA wr _ 3 _ _ _ hst.2.1;have f2:=zAY wr _ 3 _ _ hst.2.1;have HS3:=hI (And.intro (heap_setCell_same wr ww.heap.size 3 _ _ (.slice Aa t.attrs.length ca) hst.2.1) (hst.2.2.setCell (p:=⟨ww.heap.size,3,none⟩) (Nat.le_refl _) (.slice Aa t.attrs.length ca)));clear hst hown
         go_wp2_with (first
          | (refine wpList_load_row rfl _ _ rfl ww.heap.size rfl 42 #[.int .u8 (t.kind:Int),.string x,.string y,.slice Aa t.attrs.length ca,.string z,.int .i64 t.many] (0,0) _ HS3.out.1 underlying42 rfl zId ?_)
          | (at_builtin;refine wpList_append_own_at _ rfl (.tmp 50) (.tmp 52) 22 rfl w.heap.size 42 i0 (.agg #[.int .u8 0,.string ⟨#[]⟩,.string ⟨#[]⟩,.slice none 0 0,.string ⟨#[]⟩,.int .i64 0]) 6 88 underlying22 HI.out HZ0.out HZ1.out HZ2.out rfl (by decide) _ L.length _ rfl ((HST.out.below HS3.out.2).below (stpA (Below.refl _ _) _)).1 ⟨wr.heap.size,0,none⟩ 1 1 [.int .u8 (t.kind:Int),.string x,.string y,.slice Aa t.attrs.length ca,.string z,.int .i64 t.many] rfl rfl (zAs (wr.setCell ⟨ww.heap.size,3,none⟩ (.slice Aa t.attrs.length ca)) [.int .u8 (t.kind:Int),.string x,.string y,.slice Aa t.attrs.length ca,.string z,.int .i64 t.many] 42 wr.heap.size (World.size_setCell _ _ _)) (zMW _ _ _ _ _ _ _ _) (by have:=HLT.out;unfold maxLen;omega) (by have:=HLT.out;omega) (by have:=HST.out.2.2.size;have:=HS3.out.2.size;simp at this ⊢;omega) ?_;intro v5 w5 hown5 hgr5 _ hlie;obtain ⟨A5,c5',rfl⟩:=zAE hown5;have HX5':=hI (zKG HST.out (stpA HS3.out.2 (.cells #[.int .u8 (t.kind:Int),.string x,.string y,.slice Aa t.attrs.length ca,.string z,.int .i64 t.many] 42)) (Nat.le_refl _) HIN.out.space HIN.out.name HIN.out.text HIN.out.kd HIN.out.lo HIN.out.hi (zAG (zAd HO3.out ww.heap.size 3 (by omega) (.slice Aa t.attrs.length ca)) (stpA (Below.refl _ _) _) (Nat.le_refl _)) hown5 hgr5 hlie);clear hown5 hgr5 hlie)
          | fail)
         go_roundg (g0 - 1)
         case rel=>exact ⟨_,by have:=HGK.out;have:=HLT.out;rw [List.length_append];simp;omega,by simp,by rw [List.map_append,List.length_append];exact HM2.out,HX5'.out⟩
         case measure=>have:=HGK.out;have:=HLT.out;omega
    · go_wp2_with fail
      go_loopg [6,30] t.attrs.length (fun gg x6 i wi=>∃j:Nat,j+gg=t.attrs.length∧i=.int .i64 j∧AtSt ww.heap.size (.cells #[.int .u8 (t.kind:Int),.string x,.string y,.slice (some ⟨b2,of2,sp⟩) t.attrs.length p1,.string z,.int .i64 t.many] 42 (0,0)) ww t.attrs j x6 wi)
      case atStart=>exact ⟨0,by omega,rfl,HA0.out⟩
      case round =>
       obtain ⟨j,hjg,rfl,hst⟩:=hrel;obtain ⟨Aa,ca,rfl⟩:=zAE hst.1;have HAS:=hI hst;clear k3
       by_cases hlj:j < t.attrs.length
       · have hbi:=stp HBW0.out hst.2.2
         obtain ⟨b3,of3,x2,y2,z2,ha1,hb2B,hx2,hy2,hz2,d0,d1,d2⟩:=zDU (HRP.out _ hbi) hlj;injection ha1 with ha1;injection ha1 with ha1 ha2 ha3;subst ha1 ha2 ha3;have hea:=HAL.out.each _ (List.getElem_mem hlj);rw [←hx2,←hy2,←hz2,ba_l,ba_l,ba_l] at hea;have HX2S:=hI hea.1;have HY2S:=hI hea.2.1;have HZ2S:=hI hea.2.2;have HEQ2:Hid (∀{w3 w4:World} {v4:Value} {o:Obj},Below wr.heap.size wr w3→w4.ownsRow (ww.heap.size+1) 44 3 v4 (j+1) (((t.attrs.take j).map abOf).flatMap zAk++[.string x2,.string y2,.string z2])→(w3.alloc o).grownBy w4 (Value.slice Aa j ca).ownBlock→AtSt ww.heap.size (.cells #[.int .u8 (t.kind:Int),.string x,.string y,.slice (some ⟨b2,of2,none⟩) t.attrs.length p1,.string z,.int .i64 t.many] 42 (0,0)) ww t.attrs (j+1) v4 w4):=hI fun h1 h2 h3=>AtSt.next HAS.out (Nat.le_refl _) hlj hx2 hy2 hz2 h1 h2 h3
         have HBX2:Hid (ABox wr.heap.size x2 y2 z2 (wr.alloc (.cells #[.string x2,.string y2,.string z2] 44)).drew):=hI (ABox.of (heap_alloc_new wr _));have HAL5:Hid (j+1≤1000000):=hI (by have:=HAL.out.attrs;omega);have bj:(0:Int)≤(j:Int)∧(j:Int) < (t.attrs.length:Int):=by omega
         have HWS:Hid (ww.heap.size+1≤wr.heap.size):=hI (zAc hst.2.1);have hrow:Hid (∀k,(Value.slice Aa j ca).ownBlock=some k→k < wr.heap.size):=hI fun k hk=>(hst.1.lt k hk).2
         clear hst hbi hx2 hy2 hz2 hea
         go_wp2_with fail
         clear d0 d1 d2
         go_region_held3 (fun w'=>w'.cell? ⟨wr.heap.size,0,none⟩=some (.string x2)∧w'.cell? ⟨wr.heap.size,1,none⟩=some (.string y2)∧w'.cell? ⟨wr.heap.size,2,none⟩=some (.string z2)∧w'.heap[wr.heap.size]?=some (.cells #[.string x2,.string y2,.string z2] 44 (0,0)))
          (first | exact HBX2.out | exact HBX2.out.below hb1 | exact (HBX2.out.below hb1).below hb2 | exact ((HBX2.out.below hb1).below hb2).below hb3 | exact (((HBX2.out.below hb1).below hb2).below hb3).below (stpA (Below.refl _ _) _) | exact ((((HBX2.out.below hb1).below hb2).below hb3).below (stpA (Below.refl _ _) _)).grown hgr4 (fun e=>by have:=hrow.out _ e.symm;omega))
          ((first
           | (go_at_call 87;(with_reducible refine (zBj x2 _ HX2S.out).mono ?_);rintro e1 w1 ⟨rfl,hb1⟩)
           | (go_at_call 87;(with_reducible refine (zBj y2 _ HY2S.out).mono ?_);rintro e2 w2 ⟨rfl,hb2⟩)
           | (go_at_call 87;(with_reducible refine (zBj z2 _ HZ2S.out).mono ?_);rintro e3 w3 ⟨rfl,hb3⟩)
           | (refine step_append_lies _ (by rfl) (.tmp 34) (.tmp 45) 40 (by rfl) (ww.heap.size+1) 44 j0 (.agg #[.string ⟨#[]⟩,.string ⟨#[]⟩,.string ⟨#[]⟩]) 3 48 underlying40 HJ.out HY0.out HY1.out HY2.out rfl (by decide) _ j _ (by rfl) (zAG HAS.out.1 (stpA (stp (stp (stp (stpA (Below.refl _ _) _).drew hb1) hb2) hb3) _) (Nat.le_refl _)) ⟨w3.heap.size,0,none⟩ 1 1 [.string x2,.string y2,.string z2] (by rfl) (by rfl) (zAs w3 [.string x2,.string y2,.string z2] 44 _ rfl) (by simp [Value.oneCell']) (by decide) (by have:=HAL5.out;unfold maxLen;omega) (by have:=HAL5.out;omega) (by have:=HWS.out;have:=hb1.size;have:=hb2.size;have:=hb3.size;simp at *;omega) (w3.heap.size+1) (by simp) ?_;intro gg cap w4 hown4 hgr4 hat4 hlt4)))
         have HA1:=hI (HEQ2.out (stp (stp (stp (stpA (Below.refl _ _) _).drew hb1) hb2) hb3) hown4 hgr4);clear hb1 hb2 hb3 hown4 hgr4 hat4 hlt4
         go_wp2_with fail
         go_roundg (gk - 1)
         case rel=>exact ⟨j+1,by omega,by go_num,HA1.out⟩
         case measure=>omega
       · obtain rfl:j=t.attrs.length:=by omega
         have hown:=hst.1;rw [List.take_length] at hown;have HO3:=hI hown;have k2:=zAA wr _ 3 _ _ _ hst.2.1;have f2:=zAY wr _ 3 _ _ hst.2.1;have HS3:=hI (And.intro (heap_setCell_same wr ww.heap.size 3 _ _ (.slice Aa t.attrs.length ca) hst.2.1) (hst.2.2.setCell (p:=⟨ww.heap.size,3,none⟩) (Nat.le_refl _) (.slice Aa t.attrs.length ca)));clear hst hown
         go_wp2_with (first
          | (refine wpList_load_row rfl _ _ rfl ww.heap.size rfl 42 #[.int .u8 (t.kind:Int),.string x,.string y,.slice Aa t.attrs.length ca,.string z,.int .i64 t.many] (0,0) _ HS3.out.1 underlying42 rfl zId ?_)
          | (at_builtin;refine wpList_append_own_at _ rfl (.tmp 50) (.tmp 52) 22 rfl w.heap.size 42 i0 (.agg #[.int .u8 0,.string ⟨#[]⟩,.string ⟨#[]⟩,.slice none 0 0,.string ⟨#[]⟩,.int .i64 0]) 6 88 underlying22 HI.out HZ0.out HZ1.out HZ2.out rfl (by decide) _ L.length _ rfl ((HST.out.below HS3.out.2).below (stpA (Below.refl _ _) _)).1 ⟨wr.heap.size,0,none⟩ 1 1 [.int .u8 (t.kind:Int),.string x,.string y,.slice Aa t.attrs.length ca,.string z,.int .i64 t.many] rfl rfl (zAs (wr.setCell ⟨ww.heap.size,3,none⟩ (.slice Aa t.attrs.length ca)) [.int .u8 (t.kind:Int),.string x,.string y,.slice Aa t.attrs.length ca,.string z,.int .i64 t.many] 42 wr.heap.size (World.size_setCell _ _ _)) (zMW _ _ _ _ _ _ _ _) (by have:=HLT.out;unfold maxLen;omega) (by have:=HLT.out;omega) (by have:=HST.out.2.2.size;have:=HS3.out.2.size;simp at this ⊢;omega) ?_;intro v5 w5 hown5 hgr5 _ hlie;obtain ⟨A5,c5',rfl⟩:=zAE hown5;have HX5':=hI (zKG HST.out (stpA HS3.out.2 (.cells #[.int .u8 (t.kind:Int),.string x,.string y,.slice Aa t.attrs.length ca,.string z,.int .i64 t.many] 42)) (Nat.le_refl _) HIN.out.space HIN.out.name HIN.out.text HIN.out.kd HIN.out.lo HIN.out.hi (zAG (zAd HO3.out ww.heap.size 3 (by omega) (.slice Aa t.attrs.length ca)) (stpA (Below.refl _ _) _) (Nat.le_refl _)) hown5 hgr5 hlie);clear hown5 hgr5 hlie)
          | fail)
         go_roundg (g0 - 1)
         case rel=>exact ⟨_,by have:=HGK.out;have:=HLT.out;rw [List.length_append];simp;omega,by simp,by rw [List.map_append,List.length_append];exact HM2.out,HX5'.out⟩
         case measure=>have:=HGK.out;have:=HLT.out;omega
  · obtain hLn:L.length=n:=by omega
    have hall:L.map NB.n=v:=by rw [hmap,hLn,←HN.out];exact List.take_length
    have HO:Hid (zLM v w (.returned (.slice Ao L.length co)) ww):=hI (by
     have h1:=hst.read (Nat.le_refl _);rw [hall] at h1;exact ⟨Ao,co,by rw [hLn,HN.out],h1.1,hst.2.2⟩)
    subst hLn;clear hst hmap hall
    go_wp2_with fail
    go_ret
    exact HO.out
def subR (v:List Nd) (i:Int):List Nd × Int:=if zBA v i=0 then (match v[i.toNat]? with
 | some n=>if n.kind=2 then ([],2) else (zA4 v i.toNat,0)
 | none=>([],2)) else ([],zBA v i)
def zIR (v:List Nd) (i:Int) (w:World) (e:Ending) (w':World):Prop:=∃(out:List Nd) (q:Int) (A:Option Addr) (c:Nat),subR v i=(out,q)∧e=.returned (.tuple #[.slice A out.length c,.int .i64 q])∧zDq w.heap.size w out A c w'∧Below w.heap.size w w'
theorem zIR.bad {v:List Nd} {i q:Int} {w w':World} (h:subR v i=([],q)) (hb:Below w.heap.size w w'):zIR v i w (.returned (.tuple #[.slice none 0 0,.int .i64 q])) w':=⟨[],q,none,0,h,rfl,zDq.none _ _ _,hb⟩
theorem zMX {w:World} {A:Option Addr} {v:List Nd} {n c:Nat} (hr:RdB NdS w A v) (hn:v.length=n) (hnc:n≤c) (p q:Nat) (hp:p < n) (hpq:p≤q) (hq:q≤n) :
 ∃A',RdB NdS w A' ((v.drop p).take (q - p))∧∀W,(Instr.slice 22 (.slice A n c) (some (.int .i64 (p:Int))) (some (.int .i64 (q:Int))) none).run prog W=.ok (.slice A' (q - p) (c - p)) W:=by
 obtain ⟨b,off,rfl,hb,hc⟩:=hr (by omega);refine ⟨some ⟨b,off+p*6,none⟩,RdS.take (RdS.drop (C:=NdS) hr p) (q - p),fun W=>?_⟩;have hel:prog.elem 22=42:=by simp [Program.elem,underlying22]
 have htt:prog.underlying 22=some (.slice (prog.elem 22)):=by rw [hel];exact underlying22
 obtain ⟨i0,hi,hz⟩:∃i0,prog.info? 42=some i0∧i0.size=6:=by
  have h:=zId
  cases hq:prog.info? 42 with
  | none=>rw [hq] at h;cases h
  | some i0=>rw [hq] at h;exact ⟨i0,rfl,Option.some.inj h⟩
 have hs:(sizeOf 42).run prog W=.ok 6 W:=by simp [sizeOf,typeInfo,hi,hz]
 rw [run_slice_lh W 22 _ n c htt .i64 .i64 (p:Int) (q:Int) (by omega) (by omega) (by omega),hel,hs];show Result.ok (sliced _ _ _ _ _) W=_;unfold sliced;rw [if_neg (by omega),Int.toNat_natCast,Int.toNat_natCast]
 simp [zAh]
theorem zQS {v:List Nd} {p:Nat} {r:List Nd} (hp:p < v.length) (h:zAD 12 (v.drop p)=some r):(v[p]'hp).kind=1∨(v[p]'hp).kind=2:=by
 rw [List.drop_eq_getElem_cons hp] at h;exact zBY (zBE h).1
theorem zPA {v:List Nd} {p:Nat} (hp:p < v.length) (h:zBA v p=0) (hk:(v[p]'hp).kind=1):subR v p=(zA4 v p,0):=by
 unfold subR;rw [if_pos h,Int.toNat_natCast,List.getElem?_eq_getElem hp];show (if (v[p]'hp).kind=2 then _ else _)=_;rw [if_neg (by omega)]
theorem zPB {v:List Nd} {p:Nat} (hp:p < v.length) (h:zBA v p=0) (hk:(v[p]'hp).kind=2):subR v p=([],2):=by
 unfold subR;rw [if_pos h,Int.toNat_natCast,List.getElem?_eq_getElem hp];show (if (v[p]'hp).kind=2 then _ else _)=_;rw [if_pos hk]
theorem zRs {v:List Nd} {i:Int} (h:zBA v i≠0):subR v i=([],zBA v i):=by unfold subR;rw [if_neg h]
theorem zMi {v:List Nd} {p:Nat} {r:List Nd} (hr:zAD 12 (v.drop p)=some r):(v.drop p).take (v.length - r.length - p)=zA4 v p∧(zA4 v p).length=v.length - r.length - p:=by
 obtain ⟨h1,h2⟩:=zGR hr;have hl:=zCH hr;have h3:=congrArg List.length h2;rw [List.length_append,List.length_drop] at h3;rw [List.length_drop] at hl h1;refine ⟨by rw [h1,show v.length - r.length - p=v.length - p - r.length by omega],by omega⟩
theorem zOt {v:List Nd} {p:Nat} {r:List Nd} (hr:zAD 12 (v.drop p)=some r):∀x∈zA4 v p,x∈v:=by
 intro x hx;rw [←(zMi hr).1] at hx;exact List.mem_of_mem_drop (List.mem_of_mem_take hx)
theorem zSf (A:Option Addr) (n c:Nat) (v:List Nd) (i:Int) (w:World) (hr:RdB NdS w A v) (hn:v.length=n) (hnc:n≤c) (hmax:n≤9223372036854775807) (hsm:n≤512→∀m∈v,zAV m) :
 Calls prog 35 #[.slice A n c,.int .i64 i] w (zIR v i w):=by
 obtain ⟨qq,hqq⟩:∃qq,zBA v i=qq:=⟨_,rfl⟩;have HC:=hI (zMj A n c v i w hr hn hmax hsm qq hqq)
 by_cases h0:qq=0
 · subst h0
   obtain ⟨hm,h1,h2⟩:=zDr hqq;have h5:=(zAj.1 hm).1;obtain ⟨p,rfl⟩:=zL0 h1;have hpv:p < v.length:=by omega
   obtain ⟨r,hrr⟩:=zE9 hm (i:=p) hpv;obtain ⟨b0,off,x,y,t,A1,c1,hA,hbB,hin,q0,-⟩:=zBz hr hpv;have HBB:=hI hbB;have bp:(0:Int)≤(p:Int)∧(p:Int) < (n:Int):=by omega
   rcases zQS hpv hrr with hk | hk
   · have HS:=hI (zPA hpv hqq hk)
     rw [hk,show ((1:Nat):Int)=1 from rfl] at q0;obtain ⟨out,ho⟩:∃out,zA4 v p=out:=⟨_,rfl⟩;rw [ho] at HS;have hlr:=zCH hrr;rw [List.length_drop] at hlr;obtain ⟨hp1,hp2⟩:=zMi hrr;obtain ⟨q,hq⟩:∃q,v.length - r.length=q:=⟨_,rfl⟩;rw [hq] at hp1 hp2;have HBH:Hid (∀W,Below w.heap.size w W→Calls prog 75 #[.slice A n c,.int .i64 p] W fun e w'=>e=.returned (.int .i64 q)∧Below W.heap.size W w'):=hI fun W hW=>zJZ A n c v p 12 r W (hr.on hW) hn (by omega) (by omega) hrr q (by rw [←hn];exact hq)
     obtain ⟨A2,hr2,hsl⟩:=zMX hr hn hnc p q (by omega) (by omega) (by omega);rw [hp1] at hr2;have hmem:=zOt hrr;rw [ho] at hr2 hp2 hmem;have hsm2:=hsm (by omega);have HT:Hid (∀W,Below w.heap.size w W→Calls prog 43 #[.slice A2 (q - p) (c - p)] W (zLM out W)):=hI fun W hW=>zNb A2 (q - p) (c - p) out W (hr2.on hW) hp2 (by omega) fun x hx=>hsm2 x (hmem x hx)
     subst hA;clear hr hn hnc hmax hsm hsm2 hqq hm h1 h2 h5 hrr hin hk hlr hp1 hp2 hr2 hmem hq ho hbB
     go_enter func35,ntmps35
     go_wp2_with (first
      | (go_at_call 73;(with_reducible refine (HC.out).mono ?_);rintro e1 w1 ⟨rfl,hb1⟩;have HB1:=hI hb1;have s0:=(hb1.cell (p:=⟨b0,_,none⟩) HBB.out).trans q0;clear hb1)
      | (go_at_call 75;(with_reducible refine (HBH.out _ HB1.out).mono ?_);rintro e2 w2 ⟨rfl,hb2⟩;have HB2:=hI (stp HB1.out hb2);clear hb2)
      | (go_at_call 43;(with_reducible refine (HT.out _ HB2.out).mono ?_);rintro e3 w3 ⟨A3,c3,rfl,ho3,hb3⟩;have HO3:=hI ho3;have HB3:=hI hb3;clear ho3 hb3)
      | fail)
     go_ret2
     exact ⟨out,0,A3,c3,HS.out,rfl,HO3.out.weak HB2.out.size,stp HB2.out HB3.out⟩
   · have HS:=hI (zPB hpv hqq hk)
     rw [hk,show ((2:Nat):Int)=2 from rfl] at q0;subst hA;clear hr hn hnc hmax hsm hqq hm h1 h2 h5 hrr hin hk hbB
     go_enter func35,ntmps35
     go_wp2_with (first
      | (go_at_call 73;(with_reducible refine (HC.out).mono ?_);rintro e1 w1 ⟨rfl,hb1⟩;have HB1:=hI hb1;have s0:=(hb1.cell (p:=⟨b0,_,none⟩) HBB.out).trans q0;clear hb1)
      | fail)
     go_ret2
     exact zIR.bad HS.out HB1.out
 · have hs:=zRs (v:=v) (i:=i) (by omega)
   rw [hqq] at hs;have HS:=hI hs;have hv:=zFd v i;have hq2:qq=2∨qq=8:=by omega
   clear hr hn hnc hmax hsm hqq hv hs;rcases hq2 with rfl | rfl
   all_goals
    go_enter func35,ntmps35
    go_wp2_with (first
     | (go_at_call 73;(with_reducible refine (HC.out).mono ?_);rintro e1 w1 ⟨rfl,hb1⟩;have HB1:=hI hb1;clear hb1)
     | fail)
    go_ret2
    exact zIR.bad HS.out HB1.out
theorem zHZ {g:List Nd→Option (List Nd)} (hg:Tr.Loc g):∀(m p0:Nat) (b0 b:Bool) (l r:List Nd),zAF g m b0 l=some (b,r)→(zBZ g m p0 l).length=m∧∀k∈zBZ g m p0 l,p0≤k∧k < p0+l.length:=by
 intro m
 induction m with
 | zero=>intro p0 b0 b l r h;rw [zBZ];exact ⟨rfl,fun k hk=>by cases hk⟩
 | succ m ih =>
  intro p0 b0 b l r h
  cases l with
  | nil=>rw [zAF] at h;cases h
  | cons n l =>
   rw [zAF] at h
   by_cases hb:b0=true∧n.kind=2
   · rw [if_pos hb] at h;cases h
   · rw [if_neg hb] at h
     cases hn:g (n::l) with
     | none=>rw [hn] at h;cases h
     | some y =>
      rw [hn] at h;obtain ⟨q,hq,e1,_⟩:=hg _ _ hn;have l1:y.length+q.length=(n::l).length:=by rw [e1,List.length_append];omega
      obtain ⟨h1,h2⟩:=ih (p0+((n::l).length - y.length)) _ _ _ _ h;rw [zBZ,hn];refine ⟨by rw [List.length_cons,h1],fun k hk=>?_⟩;rcases List.mem_cons.1 hk with rfl | hk
      · simp
      · have:=h2 k hk
        omega
theorem zPH {v:List Nd} {p:Nat} {r:List Nd} (hp:p < v.length) (h:zAD 12 (v.drop p)=some r):(∀k∈zCp v p,k < v.length)∧(zCp v p).length≤v.length:=by
 have h':=h;rw [List.drop_eq_getElem_cons hp] at h';obtain ⟨_,hm0,bb,hk0⟩:=zBE h';have hk:=zEZ (e:=12) (by omega) hk0;obtain ⟨h1,h2⟩:=zHZ (zAZ 12) _ (p+1) _ _ _ _ hk;have hU:zCp v p=zBZ (zAD 12) (v[p]'hp).many.toNat (p+1) (v.drop (p+1)):=by unfold zCp;rw [List.getElem?_eq_getElem hp]
 have hl:=zBX hk;rw [List.length_drop] at hl;refine ⟨fun k hk2=>?_,by rw [hU,h1];omega⟩;rw [hU] at hk2;have:=h2 k hk2;rw [List.length_drop] at this
 omega
end Hx
end Go.Proofs.YtlgppednjkbgiaaGreatDoor
