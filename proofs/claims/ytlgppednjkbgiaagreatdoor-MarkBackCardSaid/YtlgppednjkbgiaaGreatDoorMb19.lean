/- Texts put together. -/
import Derived.Test.YtlgppednjkbgiaaGreatDoorMbA
import Derived.Test.YtlgppednjkbgiaaGreatDoorMb18
import Derived.Test.YtlgppednjkbgiaaGreatDoorMb09
import Derived.Test.YtlgppednjkbgiaaGreatDoorMb15
import Derived.Test.YtlgppednjkbgiaaGreatDoorMb17
import Derived.Test.YtlgppednjkbgiaaGreatDoorMb12
import Derived.Test.YtlgppednjkbgiaaGreatDoorMb14
import Derived.Test.YtlgppednjkbgiaaGreatDoorMb01
import Derived.Test.YtlgppednjkbgiaaGreatDoorMb04
import Derived.Test.YtlgppednjkbgiaaGreatDoorMb07
set_option maxRecDepth 100000
set_option maxHeartbeats 16000000
set_option linter.unusedVariables false
namespace Go.Proofs.YtlgppednjkbgiaaGreatDoor
open Go.RowKit Go.Proofs.Tryz
namespace Hx
open Lx Tr Tx Nmb Es Ns
theorem zEc (k:Nat) (hk:k<=1000000):(zBf k).length<=10:=by
 unfold zBf;have:=zFD 6 (k+1) (by omega);rw [List.length_cons]
 omega
theorem zFw (k:Nat) (hk:k<=1000000):∃t:ByteArray,t.data.toList=zBf k/\t.size<=10:=by
 refine ⟨⟨(zBf k).toArray⟩,by simp,?_⟩;show (zBf k).toArray.size<=10;rw [List.size_toArray];exact zEc k hk
theorem zCw (a b:ByteArray):(a++b).data.toList=a.data.toList++b.data.toList:=by simp
theorem zKG (S:List (List UInt8)) (j:Nat) (hj:j<S.length):numD 0 (S.take (j+1))=numD 0 (S.take j)++[⟨[],zAQ++58::zBf j,S[j]⟩]:=by
 rw [List.take_succ_eq_append_getElem hj,zHK,List.length_take,Nat.min_eq_left (Nat.le_of_lt hj),Nat.zero_add]
def zLu (nd:Nd) (o:List UInt8) (y z:ByteArray) (w:World) (e:Ending) (w':World):Prop:=∃(A':Option Addr) (c':Nat) (L:List AB),e=.returned (.agg #[.int .u8 1,.string ⟨#[]⟩,.string y,.slice A' L.length c',.string z,.int .i64 nd.many])/\L.map zAg=zBN o nd ∧
 w'.ownsRow (w.heap.size+2) 44 3 (.slice A' L.length c') L.length (L.flatMap zAi)/\Below w.heap.size w w'
theorem zDn (o:List UInt8) (nd:Nd):(ownD o nd).length<=1:=by
 unfold ownD
 split <;> simp
theorem BaSt.first {base:Nat} {W0 w5 w1:World} {L:List AB} {V VS:Value} {S:List ByteArray} (ho:w5.ownsRow base 44 3 V L.length (L.flatMap zAi)) (hz:base<=w5.heap.size) (hb:Below base W0 w5)
 (hs:w1.ownsRow w5.heap.size 9 1 VS S.length (S.map Value.string)) (hb1:Below w5.heap.size w5 w1):BaSt base w5.heap.size W0 L V S VS w1 :=
 ⟨zAF ho hb1 (Nat.le_refl _),hs,λg hg e=>by have h1:=(ho.lt g hg).2;have h2:=(hs.lt g e).1;omega,Nat.le_trans hz hb1.size,hb.trans (hb1.mono hz)⟩
theorem BaSt.nil (base:Nat) (W0:World) (h:base<=W0.heap.size):BaSt base 0 W0 [] (.slice none 0 0) [] (.slice none 0 0) W0 :=
 ⟨World.ownsRow_nil _ _ _ _,World.ownsRow_nil _ _ _ _,(λg hg=>by cases hg),h,Below.refl _ _⟩
theorem zJW {nd:Nd} {o:List UInt8} {y z:ByteArray} {w W0 wr:World} {bS n:Nat} {L:List AB} {A1:Option Addr} {c1:Nat} {S:List ByteArray} {VS:Value} (h:BaSt (w.heap.size+2) bS W0 L (.slice A1 L.length c1) S VS wr) (hL:L.map zAg=zBN o nd) (hB:Below w.heap.size w W0) (m:Int) (hm:nd.many=m) (cs:Array Value) (v1 v3:Value) :
 zLu nd o y z w (.returned (.agg #[.int .u8 1,.string ⟨#[]⟩,.string y,.slice A1 L.length c1,.string z,.int .i64 m])) (((wr.setCell ⟨w.heap.size,1,none⟩ v1).setCell ⟨w.heap.size,3,none⟩ v3).setRow (w.heap.size+1) cs):=by
 have h1:=zD9 (zAf (zAf h.own w.heap.size 1 (by omega) v1) w.heap.size 3 (by omega) v3) (w.heap.size+1) (by omega) cs;have hb:=hB.trans (h.below.mono (by omega));exact ⟨A1,c1,L,by rw [hm],hL,h1,zDo ((hb.setCell (p:=⟨w.heap.size,1,none⟩) (Nat.le_refl _) v1).setCell (p:=⟨w.heap.size,3,none⟩) (Nat.le_refl _) v3) (by omega) cs⟩
theorem zRN (nd:Nd) (x y z o:ByteArray) (A:Option Addr) (c:Nat) (w:World) (h:NdAt nd x y z A c w) (hs:zAW nd) (hk:nd.kind=1) (hla:nd.attrs.length<=1000) (hT:TbH w) :
 Calls prog 49 #[NdV nd x y z A c,.string o] w (zLu nd o.data.toList y z w):=by
 obtain ⟨i0,hi,hz0,hz1,hz2⟩:=info_parts zHN;have HI:=hI hi;have HZ0:=hI hz0;have HZ1:=hI hz1;have HZ2:=hI hz2;obtain ⟨n,hn⟩:∃n,nd.attrs.length=n:=⟨_,rfl⟩;obtain ⟨m0,hm0⟩:∃m0,nd.many=m0:=⟨_,rfl⟩;have bn:(n:Int)<=1000:=by omega
 obtain ⟨W0,hW0⟩:∃W0,(w.alloc (.cells #[.int .u8 1,.string x,.string y,.slice A n c,.string z,.int .i64 m0] 42)).alloc (.cells #[.int .u8 0,.string ⟨#[]⟩,.string ⟨#[]⟩,.slice none 0 0,.string ⟨#[]⟩,.int .i64 0] 42)=W0:=⟨_,rfl⟩;have HB0:Hid (Below w.heap.size w W0):=hI (by rw [←hW0];exact stpA (stpA (Below.refl _ _) _) _);have HS0:Hid (W0.heap.size=w.heap.size+2):=hI (by rw [←hW0,World.size_alloc,World.size_alloc]);have HN0:Hid (W0.heap[w.heap.size]?=some (.cells #[.int .u8 1,.string x,.string y,.slice A n c,.string z,.int .i64 m0] 42 (0,0))):=hI (by rw [←hW0];exact zAB (heap_alloc_new w _) (stpA (Below.refl _ _) _));have HR0:Hid (W0.heap[w.heap.size+1]?=some (.cells #[.int .u8 0,.string ⟨#[]⟩,.string ⟨#[]⟩,.slice none 0 0,.string ⟨#[]⟩,.int .i64 0] 42 (0,0))):=hI (by have:=heap_alloc_new (w.alloc (.cells #[.int .u8 1,.string x,.string y,.slice A n c,.string z,.int .i64 m0] 42)) (.cells #[.int .u8 0,.string ⟨#[]⟩,.string ⟨#[]⟩,.slice none 0 0,.string ⟨#[]⟩,.int .i64 0] 42);rw [World.size_alloc,hW0] at this;exact this);have k01:=zAA W0 _ 1 _ _ _ HN0.out;have HRA:Hid (∀W,Below w.heap.size w W->RdB AtS W A nd.attrs):=hI λW hW=>h.rd.on hW
 have HNU:Hid (∀W,Below w.heap.size w W->Calls prog 92 #[.slice A n c] W (zRB nd.attrs W)):=hI λW hW=>zK8 A n c nd.attrs W (h.rd.on hW) hn (by omega)
 have HEA:=hI hs.each;have HT:=hI hT;have HXS:=hI h.space;have HNL:=hI hn;have HMM:=hI hm0;obtain ⟨oq,hoq⟩:∃oq,decide (x.data.toList=o.data.toList)=oq:=⟨_,rfl⟩;have fo:=zJ1 x o oq hoq;have HOQ:=hI hoq;have HLA:=hI hla;unfold NdV;rw [hk,hn,hm0];clear hi hz0 hz1 hz2 h hs hk hT hn hm0 hoq hla
 cases oq with
 | true =>
  have HST0:Hid (BaSt (w.heap.size+2) 0 W0 [] (.slice none 0 0) [] (.slice none 0 0) W0):=hI (BaSt.nil _ _ (by rw [HS0.out];exact Nat.le_refl _));have HOD:Hid (ownD o.data.toList nd=[]):=hI (by unfold ownD;rw [if_pos (HXS.out.symm.trans (of_decide_eq_true HOQ.out))]);have k03:=zAA W0 _ 3 _ _ _ HN0.out
  go_enter func49,ntmps49
  go_wp2_with (first
   | (rw [hW0])
   | (go_at_call 92;(with_reducible refine (HNU.out W0 HB0.out).mono ?_);rintro e1 w1 ⟨AS,cS,S,rfl,hS,hoS,hb1⟩;have HS1:=hI hS;have HST1:=hI (BaSt.first HST0.out.own HST0.out.sz HST0.out.below hoS hb1);clear hS hoS hb1)
   | fail)
  have HSL:Hid (S.length<=1000):=hI (by have h1:=zCE nd.attrs [];rw [←HS1.out,List.length_map] at h1;have:=HLA.out;rw [List.length_nil] at h1;omega);have bSl:(S.length:Int)<=1000:=by have:=HSL.out;omega
  obtain ⟨SL,hSL⟩:∃SL,zAn [] nd.attrs=SL:=⟨_,rfl⟩;have HSS:Hid (S.map (·.data.toList)=SL):=hI (by rw [HS1.out,hSL]);have HSE:=hI hSL;obtain ⟨bS,hbS⟩:∃bS,W0.heap.size=bS:=⟨_,rfl⟩;rw [hbS] at HST1;clear hSL hbS
  go_loopg [5,26] S.length (λgg x5 i wr=>∃(j:Nat) (L:List AB) (A1:Option Addr) (c1:Nat),j+gg=S.length/\i=.int .i64 j/\x5=.slice A1 L.length c1/\L.map zAg=ownD o.data.toList nd++numD 0 (SL.take j)/\BaSt (w.heap.size+2) bS W0 L x5 S (.slice AS S.length cS) wr)
  case atStart=>exact ⟨0,([]:List AB),_,_,by omega,rfl,rfl,by rw [HOD.out];rfl,HST1.out⟩
  case round =>
   obtain ⟨j,L,A1,c1,hjg,rfl,rfl,hL,hst⟩:=hrel;have HST:=hI hst;have HL:=hI hL
   have HLB:Hid (L.length<=5000):=hI (by
    have h1:=congrArg List.length hL;rw [List.length_map,List.length_append,zDD,List.length_take] at h1;have:=zDn o.data.toList nd;have h2:=congrArg List.length HSS.out;rw [List.length_map] at h2;have:=HSL.out
    omega)
   by_cases hlt:j<S.length
   · obtain ⟨gs,offs,hA2,hcs⟩:=zMD hst.sp rfl hlt
     obtain ⟨s,hs⟩:∃s,S[j]'hlt=s:=⟨_,rfl⟩;rw [hs] at hcs;have hj6:j<=1000000:=by have:=HSL.out;omega
     obtain ⟨t,ht,hts⟩:=zFw j hj6;have HP:Hid (Calls prog 93 #[.int .i64 j] wr λe w'=>e=.returned (.string t)/\Below wr.heap.size wr w'):=hI (zET j hj6 t ht wr (HT.out.to (HB0.out.trans (hst.below.mono (by omega)))));have l1:¬9223372036854775807<6+t.size:=by omega
     obtain ⟨u,hu⟩:∃u,(⟨#[120,109,108,110,115,58]⟩:ByteArray)++t=u:=⟨_,rfl⟩
     have HNX:Hid ((ownD o.data.toList nd++numD 0 (SL.take j))++[zAg ⟨⟨#[]⟩,u,s⟩]=ownD o.data.toList nd++numD 0 (SL.take (j+1))):=hI (by
      have hj2:j<SL.length:=by rw [←HSS.out,List.length_map];exact hlt
      rw [zKG SL j hj2,List.append_assoc]
      congr 2
      unfold zAg;dsimp only;rw [←hu,zCw,ht,←hs]
      congr 1
      have:=congrArg (λl=>l[j]?) HSS.out;simp only [List.getElem?_map,List.getElem?_eq_getElem hlt,List.getElem?_eq_getElem hj2,Option.map_some,Option.some.injEq] at this;rw [this]
      rfl)
     have bj:(0:Int)<=(j:Int)/\(j:Int)<(S.length:Int):=by omega
     have hlt2:(j:Int)<(S.length:Int):=by omega
     subst hA2;clear hst hL hs ht
     go_wp2_with (first
      | (go_at_call 93;(with_reducible refine (HP.out).mono ?_);rintro e2 w2 ⟨rfl,hb2⟩;have HB2:=hI hb2;clear hb2)
      | (at_builtin;refine wpList_append_own_at _ rfl (.tmp 31) (.tmp 37) 40 rfl (w.heap.size+2) 44 i0 (.agg #[.string ⟨#[]⟩,.string ⟨#[]⟩,.string ⟨#[]⟩]) 3 48 underlying40 HI.out HZ0.out HZ1.out HZ2.out rfl (by decide) _ L.length _ rfl (HST.out.on (stpA HB2.out _)).own ⟨w2.heap.size,0,none⟩ 1 1 [.string ⟨#[]⟩,.string u,.string s] rfl rfl (zAp w2 [.string ⟨#[]⟩,.string u,.string s] 44 _ rfl) (by simp [Value.oneCell']) (by have:=HLB.out;unfold maxLen;omega) (by have:=HLB.out;omega) (by have:=HST.out.sz;have:=(HB2.out).size;rw [World.size_alloc];omega) ?_;intro v5 w5 hown5 hgr5 _ hat5;obtain ⟨A5,c5,rfl⟩:=zAD hown5;have HST5:=hI (HST.out.snoc (stpA HB2.out _) ⟨⟨#[]⟩,u,s⟩ hown5 hgr5 hat5);clear hown5 hgr5 hat5)
      | fail)
     go_roundg (gk - 1)
     case measure=>omega
     case rel=>exact ⟨j+1,L++[⟨⟨#[]⟩,u,s⟩],A5,c5,by omega,by go_num,by rw [List.length_append];rfl,by rw [List.map_append,HL.out];exact HNX.out,HST5.out⟩
   · obtain rfl:j=S.length:=by omega
     have hjj:¬((S.length:Int)<(S.length:Int)):=by omega
     have HLE:Hid (L.map zAg=ownD o.data.toList nd++(numD 0 SL++(nd.attrs.take 0).map (zBF SL))):=hI (by
      rw [hL,List.take_of_length_le (by rw [←HSS.out,List.length_map];exact Nat.le_refl _)]
      simp)
     have HNr:Hid (wr.heap[w.heap.size]?=some (.cells #[.int .u8 1,.string x,.string y,.slice A n c,.string z,.int .i64 m0] 42 (0,0))):=hI ((hst.below.block w.heap.size (by omega)).trans HN0.out);have kr3:=zAA wr _ 3 _ _ _ HNr.out;have HSTA:Hid (BaSt (w.heap.size+2) bS W0 L (.slice A1 L.length c1) S (.slice AS S.length cS) wr):=HST;obtain ⟨wo,hwo⟩:∃wo:World,wo=wr:=⟨_,rfl⟩;clear hst hL HL HST HLB
     go_wp2_with fail
     go_loopg [5,43] n (λgg x5 i wr=>∃(j:Nat) (L:List AB) (A1:Option Addr) (c1:Nat),j+gg=n/\i=.int .i64 j/\x5=.slice A1 L.length c1/\L.map zAg=ownD o.data.toList nd++(numD 0 SL++(nd.attrs.take j).map (zBF SL))/\BaSt (w.heap.size+2) bS W0 L x5 S (.slice AS S.length cS) wr)
     case atStart=>exact ⟨0,L,A1,c1,by omega,rfl,rfl,HLE.out,HSTA.out⟩
     case round =>
      clear HSTA HLE HNr kr3;obtain ⟨j,L,A1,c1,hjg,rfl,rfl,hL,hst⟩:=hrel;have HST:=hI hst;have HL:=hI hL
      have HLB:Hid (L.length<=5000):=hI (by
       have h1:=congrArg List.length hL;rw [List.length_map,List.length_append,List.length_append,zDD,List.length_map,List.length_take] at h1;have:=zDn o.data.toList nd;have h2:=congrArg List.length HSS.out;rw [List.length_map] at h2;have:=HSL.out;have:=HLA.out
       omega)
      have hbW:Below w.heap.size w wr:=HB0.out.trans (hst.below.mono (by omega))
      by_cases hlt:j<n
      · have hjl:j<nd.attrs.length:=by rw [HNL.out];exact hlt
        obtain ⟨b0,off,x2,y2,z2,hA,hbB,hx,hy,hz,q0,q1,q2⟩:=zDL (HRA.out wr hbW) hjl;have hea:=HEA.out _ (List.getElem_mem hjl);obtain ⟨a,ha⟩:∃a,nd.attrs[j]'hjl=a:=⟨_,rfl⟩;rw [ha] at hx hy hz hea;have hys2:y2.size<=1000000:=by rw [zNf hy];exact hea.2.1
        have bj:(0:Int)<=(j:Int)/\(j:Int)<(n:Int):=by omega
        have hlt2:(j:Int)<(n:Int):=by omega
        obtain ⟨W1,hW1⟩:∃W1,wr.alloc (.cells #[.string x2,.string y2,.string z2] 44)=W1:=⟨_,rfl⟩;have HB1:Hid (Below wr.heap.size wr W1):=hI (by rw [←hW1];exact stpA (Below.refl _ _) _);have HX1:Hid (W1.heap[wr.heap.size]?=some (.cells #[.string x2,.string y2,.string z2] 44 (0,0))):=hI (by rw [←hW1];exact heap_alloc_new wr _);have k10:=zAA W1 _ 0 _ _ _ HX1.out;have k11:=zAA W1 _ 1 _ _ _ HX1.out;have g10:=zAZ W1 _ 0 _ _ HX1.out;have g11:=zAZ W1 _ 1 _ _ HX1.out;obtain ⟨p1,h1⟩:∃p,decide (x2.data.toList=[])=p:=⟨_,rfl⟩;obtain ⟨p2,h2⟩:∃p,decide (x2.data.toList=zAr)=p:=⟨_,rfl⟩;have f1:=zD2 x2 p1 h1;have f2:=zCO x2 zAr p2 h2;unfold zAr at f2
        have HNX:Hid (∀b:AB,zAg b=zBF SL a->(L++[b]).map zAg=ownD o.data.toList nd++(numD 0 SL++(nd.attrs.take (j+1)).map (zBF SL))):=hI λb hb=>by
         rw [List.map_append,hL,List.take_succ_eq_append_getElem hjl,ha,List.map_append,List.append_assoc,List.append_assoc];rw [List.map_cons,List.map_nil,hb]
         rfl
        subst hA
        cases p1 with
        | true =>
         have HAB:Hid (zAg ⟨⟨#[]⟩,y2,z2⟩=zBF SL a):=hI (by unfold zBF zAg;rw [if_pos (by rw [←hx];exact of_decide_eq_true h1)];dsimp only;rw [hy,hz]);have HX2:Hid ((W1.setCell ⟨wr.heap.size,0,none⟩ (.string ⟨#[]⟩)).heap[wr.heap.size]?=some (.cells #[.string ⟨#[]⟩,.string y2,.string z2] 44 (0,0))):=hI (heap_setCell_same W1 wr.heap.size 0 _ _ (.string ⟨#[]⟩) HX1.out);have HB2:Hid (Below wr.heap.size wr (W1.setCell ⟨wr.heap.size,0,none⟩ (.string ⟨#[]⟩))):=hI (HB1.out.setCell (p:=⟨wr.heap.size,0,none⟩) (Nat.le_refl _) _);clear hst hL hbW hx hy hz ha hea h1 h2 hjl hbB
         go_wp2_with (first
          | (refine wpList_store_row rfl _ _ _ rfl wr.heap.size #[.string x2,.string y2,.string z2] rfl rfl 44 #[.string ⟨#[]⟩,.string ⟨#[]⟩,.string ⟨#[]⟩] (heap_alloc_new _ _) zAX rfl (by simp [Value.oneCell']) ?_;rw [World.setRow_alloc_new,hW1])
          | (refine wpList_load_row rfl _ _ rfl wr.heap.size rfl 44 #[.string ⟨#[]⟩,.string y2,.string z2] (0,0) _ HX2.out underlying44 rfl zAX ?_)
          | (at_builtin;refine wpList_append_own_at _ rfl (.tmp 68) (.tmp 70) 40 rfl (w.heap.size+2) 44 i0 (.agg #[.string ⟨#[]⟩,.string ⟨#[]⟩,.string ⟨#[]⟩]) 3 48 underlying40 HI.out HZ0.out HZ1.out HZ2.out rfl (by decide) _ L.length _ rfl (HST.out.on (stpA HB2.out _)).own ⟨W1.heap.size,0,none⟩ 1 1 [.string ⟨#[]⟩,.string y2,.string z2] rfl rfl (zAp (W1.setCell ⟨wr.heap.size,0,none⟩ (.string ⟨#[]⟩)) [.string ⟨#[]⟩,.string y2,.string z2] 44 W1.heap.size (by rw [World.size_setCell])) (by simp [Value.oneCell']) (by have:=HLB.out;unfold maxLen;omega) (by have:=HLB.out;omega) (by have:=HST.out.sz;have:=(HB2.out).size;rw [World.size_alloc];omega) ?_;intro v5 w5 hown5 hgr5 _ hat5;obtain ⟨A5,c5,rfl⟩:=zAD hown5;have HST5:=hI (HST.out.snoc (stpA HB2.out _) ⟨⟨#[]⟩,y2,z2⟩ hown5 hgr5 hat5);clear hown5 hgr5 hat5)
          | fail)
         go_roundg (gk - 1)
         case measure=>omega
         case rel=>exact ⟨j+1,L++[⟨⟨#[]⟩,y2,z2⟩],A5,c5,by omega,by go_num,by rw [List.length_append];rfl,HNX.out _ HAB.out,HST5.out⟩
        | false =>
         cases p2 with
         | true =>
          obtain ⟨u,hu⟩:∃u,(⟨#[120,109,108,58]⟩:ByteArray)++y2=u:=⟨_,rfl⟩;have l1:¬9223372036854775807<4+y2.size:=by omega
          have HAB:Hid (zAg ⟨⟨#[]⟩,u,z2⟩=zBF SL a):=hI (by
           unfold zBF zAg;rw [if_neg (by rw [←hx];exact of_decide_eq_false h1),if_pos (by rw [←hx];exact of_decide_eq_true h2)];dsimp only;rw [←hu,zCw,hy,hz]
           rfl)
          have HX2:Hid ((W1.setCell ⟨wr.heap.size,1,none⟩ (.string u)).heap[wr.heap.size]?=some (.cells #[.string x2,.string u,.string z2] 44 (0,0))):=hI (heap_setCell_same W1 wr.heap.size 1 _ _ (.string u) HX1.out);have k20:=zAA _ _ 0 _ _ _ HX2.out;have g20:=zAZ _ _ 0 _ _ HX2.out;have HX3:Hid (((W1.setCell ⟨wr.heap.size,1,none⟩ (.string u)).setCell ⟨wr.heap.size,0,none⟩ (.string ⟨#[]⟩)).heap[wr.heap.size]?=some (.cells #[.string ⟨#[]⟩,.string u,.string z2] 44 (0,0))):=hI (heap_setCell_same (W1.setCell ⟨wr.heap.size,1,none⟩ (.string u)) wr.heap.size 0 _ _ (.string ⟨#[]⟩) HX2.out);have HB2:Hid (Below wr.heap.size wr ((W1.setCell ⟨wr.heap.size,1,none⟩ (.string u)).setCell ⟨wr.heap.size,0,none⟩ (.string ⟨#[]⟩))):=hI ((HB1.out.setCell (p:=⟨wr.heap.size,1,none⟩) (Nat.le_refl _) _).setCell (p:=⟨wr.heap.size,0,none⟩) (Nat.le_refl _) _);clear hst hL hbW hx hy hz ha hea h1 h2 hjl hbB
          go_wp2_with (first
           | (refine wpList_store_row rfl _ _ _ rfl wr.heap.size #[.string x2,.string y2,.string z2] rfl rfl 44 #[.string ⟨#[]⟩,.string ⟨#[]⟩,.string ⟨#[]⟩] (heap_alloc_new _ _) zAX rfl (by simp [Value.oneCell']) ?_;rw [World.setRow_alloc_new,hW1])
           | (refine wpList_load_row rfl _ _ rfl wr.heap.size rfl 44 #[.string ⟨#[]⟩,.string u,.string z2] (0,0) _ HX3.out underlying44 rfl zAX ?_)
           | (at_builtin;refine wpList_append_own_at _ rfl (.tmp 68) (.tmp 70) 40 rfl (w.heap.size+2) 44 i0 (.agg #[.string ⟨#[]⟩,.string ⟨#[]⟩,.string ⟨#[]⟩]) 3 48 underlying40 HI.out HZ0.out HZ1.out HZ2.out rfl (by decide) _ L.length _ rfl (HST.out.on (stpA HB2.out _)).own ⟨W1.heap.size,0,none⟩ 1 1 [.string ⟨#[]⟩,.string u,.string z2] rfl rfl (zAp ((W1.setCell ⟨wr.heap.size,1,none⟩ (.string u)).setCell ⟨wr.heap.size,0,none⟩ (.string ⟨#[]⟩)) [.string ⟨#[]⟩,.string u,.string z2] 44 W1.heap.size (by rw [World.size_setCell,World.size_setCell])) (by simp [Value.oneCell']) (by have:=HLB.out;unfold maxLen;omega) (by have:=HLB.out;omega) (by have:=HST.out.sz;have:=(HB2.out).size;rw [World.size_alloc];omega) ?_;intro v5 w5 hown5 hgr5 _ hat5;obtain ⟨A5,c5,rfl⟩:=zAD hown5;have HST5:=hI (HST.out.snoc (stpA HB2.out _) ⟨⟨#[]⟩,u,z2⟩ hown5 hgr5 hat5);clear hown5 hgr5 hat5)
           | fail)
          go_roundg (gk - 1)
          case measure=>omega
          case rel=>exact ⟨j+1,L++[⟨⟨#[]⟩,u,z2⟩],A5,c5,by omega,by go_num,by rw [List.length_append];rfl,HNX.out _ HAB.out,HST5.out⟩
         | false =>
          have hmem:x2.data.toList∈S.map (·.data.toList):=by
           rw [HSS.out,←HSE.out,hx];have:=(zBQ nd.attrs []).2.1 a (by rw [←ha];exact List.getElem_mem hjl);rw [←hx] at this ⊢;exact this (of_decide_eq_false h1) (of_decide_eq_false h2)
          obtain ⟨k,hk⟩:∃k,(S.map (·.data.toList)).idxOf x2.data.toList=k:=⟨_,rfl⟩
          have hkS:k<S.length:=by
           have:=List.idxOf_lt_length_of_mem hmem;rw [hk,List.length_map] at this;exact this
          have hk6:k<=1000000:=by have:=HSL.out;omega
          obtain ⟨t,ht,hts⟩:=zFw k hk6;have HIX:Hid (∀W,Below wr.heap.size wr W->Calls prog 94 #[.slice AS S.length cS,.string x2] W λe w'=>e=.returned (.int .i64 (k:Int))/\Below W.heap.size W w'):=hI λW hW=>zR0 AS S.length cS bS S W (hst.on hW).sp rfl (by have:=HSL.out;omega) x2 k hmem hk
          have HP:Hid (∀W,Below wr.heap.size wr W->Calls prog 93 #[.int .i64 k] W λe w'=>e=.returned (.string t)/\Below W.heap.size W w'):=hI λW hW=>zET k hk6 t ht W (HT.out.to (hbW.trans (hW.mono hbW.size)))
          have l1:¬9223372036854775807<t.size+1:=by omega
          have l2:¬9223372036854775807<(t++⟨#[58]⟩).size+y2.size:=by
           have:(t++(⟨#[58]⟩:ByteArray)).size=t.size+1:=by rw [ByteArray.size_append];rfl
           omega
          obtain ⟨u1,hu1⟩:∃u1,t++(⟨#[58]⟩:ByteArray)=u1:=⟨_,rfl⟩;rw [hu1] at l2;obtain ⟨u,hu⟩:∃u,u1++y2=u:=⟨_,rfl⟩
          have HAB:Hid (zAg ⟨⟨#[]⟩,u,z2⟩=zBF SL a):=hI (by
           unfold zBF zAg;rw [if_neg (by rw [←hx];exact of_decide_eq_false h1),if_neg (by rw [←hx];exact of_decide_eq_false h2)];dsimp only;rw [←hu,zCw,←hu1,zCw,ht,hy,hz,←HSS.out,←hx,hk,List.append_assoc]
           rfl)
          clear hst hL hbW hx hy hz ha hea h1 h2 hjl hbB hmem hk ht
          go_wp2_with (first
           | (refine wpList_store_row rfl _ _ _ rfl wr.heap.size #[.string x2,.string y2,.string z2] rfl rfl 44 #[.string ⟨#[]⟩,.string ⟨#[]⟩,.string ⟨#[]⟩] (heap_alloc_new _ _) zAX rfl (by simp [Value.oneCell']) ?_;rw [World.setRow_alloc_new,hW1])
           | fail)
          clear q0 q1 q2 k10 k11 g10 g11;refine wp_region_noPanic ?_;refine zAN (λW=>W.cell? ⟨wr.heap.size,0,none⟩=some (.string x2)/\W.cell? ⟨wr.heap.size,1,none⟩=some (.string y2)) 10 (by kernel_rfl) ?_;have hS0:W1.drew.cell? ⟨wr.heap.size,0,none⟩=some (.string x2)/\W1.drew.cell? ⟨wr.heap.size,1,none⟩=some (.string y2):=⟨zAA W1 _ 0 _ _ _ HX1.out,zAA W1 _ 1 _ _ _ HX1.out⟩;refine tkZ (i:=0) (v:=.slice AS S.length cS) rfl (Or.inl ⟨by rfl,?_⟩) hS0 ?_
          · intro w' hSw;(try dsimp only at hSw);go_simp
          try simp only [Act.put,sTA,sTB,sTC]
          refine tkZ (i:=1) (v:=.pointer (some ⟨wr.heap.size,0,none⟩)) rfl (Or.inl ⟨by rfl,?_⟩) hS0 ?_
          · intro w' hSw;(try dsimp only at hSw);go_simp
          try simp only [Act.put,sTA,sTB,sTC]
          refine tkZ (i:=2) (v:=.string x2) rfl (Or.inl ⟨by rfl,?_⟩) hS0 ?_
          · intro w' hSw;(try dsimp only at hSw);go_simp
          try simp only [Act.put,sTA,sTB,sTC]
          refine tkZ (i:=6) (v:=.pointer (some ⟨wr.heap.size,1,none⟩)) rfl (Or.inl ⟨by rfl,?_⟩) hS0 ?_
          · intro w' hSw;(try dsimp only at hSw);go_simp
          try simp only [Act.put,sTA,sTB,sTC]
          refine tkZ (i:=7) (v:=.string y2) rfl (Or.inl ⟨by rfl,?_⟩) hS0 ?_
          · intro w' hSw;(try dsimp only at hSw);go_simp
          try simp only [Act.put,sTA,sTB,sTC]
          refine zAS (i:=3) (by kernel_rfl) rfl (λK hK=>?_)
          go_simp
          go_at_call 94;(with_reducible refine (HIX.out W1.drew HB1.out.drew).mono ?_);rintro e3 w3 ⟨rfl,hb3⟩;have HB3:Hid (Below wr.heap.size wr w3):=hI (HB1.out.drew.trans (hb3.mono HB1.out.drew.size));have HX3:Hid (w3.heap[wr.heap.size]?=some (.cells #[.string x2,.string y2,.string z2] 44 (0,0))):=hI (zAB (a:=W1.drew) HX1.out hb3);clear hb3
          have hS3:w3.cell? ⟨wr.heap.size,0,none⟩=some (.string x2)/\w3.cell? ⟨wr.heap.size,1,none⟩=some (.string y2):=⟨zAA w3 _ 0 _ _ _ HX3.out,zAA w3 _ 1 _ _ _ HX3.out⟩
          go_wp2_with fail
          refine hK.out _ _ (λ_=>hS3) (λ_=>?_);clear hK K hS0
          try simp only [Act.put,sTA,sTB,sTC]
          refine zAS (i:=4) (by kernel_rfl) rfl (λK hK=>?_)
          go_simp
          go_at_call 93;(with_reducible refine (HP.out w3 HB3.out).mono ?_);rintro e4 w4 ⟨rfl,hb4⟩;have HB4:Hid (Below wr.heap.size wr w4):=hI (HB3.out.trans (hb4.mono HB3.out.size));have HX4:Hid (w4.heap[wr.heap.size]?=some (.cells #[.string x2,.string y2,.string z2] 44 (0,0))):=hI (zAB HX3.out hb4);clear hb4
          have hS4:w4.cell? ⟨wr.heap.size,0,none⟩=some (.string x2)/\w4.cell? ⟨wr.heap.size,1,none⟩=some (.string y2):=⟨zAA w4 _ 0 _ _ _ HX4.out,zAA w4 _ 1 _ _ _ HX4.out⟩
          go_wp2_with fail
          refine hK.out _ _ (λ_=>hS4) (λ_=>?_);clear hK K hS3
          try simp only [Act.put,sTA,sTB,sTC]
          refine tkZ (i:=5) (v:=.string u1) rfl (Or.inl ⟨by rfl,?_⟩) hS4 ?_
          · intro w' hSw;(try dsimp only at hSw);go_simp
          try simp only [Act.put,sTA,sTB,sTC]
          refine tkZ (i:=8) (v:=.string u) rfl (Or.inl ⟨by rfl,?_⟩) hS4 ?_
          · intro w' hSw;(try dsimp only at hSw);go_simp
          try simp only [Act.put,sTA,sTB,sTC]
          refine tkZ (i:=9) (v:=.pointer (some ⟨wr.heap.size,1,none⟩)) rfl (Or.inl ⟨by rfl,?_⟩) hS4 ?_
          · intro w' hSw;(try dsimp only at hSw);go_simp
          try simp only [Act.put,sTA,sTB,sTC]
          refine zAS (i:=10) (by kernel_rfl) rfl (λK hK=>?_);have k41:=hS4.2;have g41:=zAZ w4 _ 1 _ _ HX4.out
          go_simp
          refine hK.out _ _ (λh=>absurd rfl h) (λ_=>?_);clear hK K k41 g41
          try simp only [Act.put,sTA,sTB,sTC]
          refine zCU (by kernel_rfl) ?_ _;refine NoPanic.normal ?_;have HX5:Hid ((w4.setCell ⟨wr.heap.size,1,none⟩ (.string u)).heap[wr.heap.size]?=some (.cells #[.string x2,.string u,.string z2] 44 (0,0))):=hI (heap_setCell_same w4 wr.heap.size 1 _ _ (.string u) HX4.out);have k50:=zAA _ _ 0 _ _ _ HX5.out;have g50:=zAZ _ _ 0 _ _ HX5.out;have HX6:Hid (((w4.setCell ⟨wr.heap.size,1,none⟩ (.string u)).setCell ⟨wr.heap.size,0,none⟩ (.string ⟨#[]⟩)).heap[wr.heap.size]?=some (.cells #[.string ⟨#[]⟩,.string u,.string z2] 44 (0,0))):=hI (heap_setCell_same (w4.setCell ⟨wr.heap.size,1,none⟩ (.string u)) wr.heap.size 0 _ _ (.string ⟨#[]⟩) HX5.out);have HB2:Hid (Below wr.heap.size wr ((w4.setCell ⟨wr.heap.size,1,none⟩ (.string u)).setCell ⟨wr.heap.size,0,none⟩ (.string ⟨#[]⟩))):=hI ((HB4.out.setCell (p:=⟨wr.heap.size,1,none⟩) (Nat.le_refl _) _).setCell (p:=⟨wr.heap.size,0,none⟩) (Nat.le_refl _) _);clear hS4
          go_wp2_with (first
           | (refine wpList_load_row rfl _ _ rfl wr.heap.size rfl 44 #[.string ⟨#[]⟩,.string u,.string z2] (0,0) _ HX6.out underlying44 rfl zAX ?_)
           | (at_builtin;refine wpList_append_own_at _ rfl (.tmp 68) (.tmp 70) 40 rfl (w.heap.size+2) 44 i0 (.agg #[.string ⟨#[]⟩,.string ⟨#[]⟩,.string ⟨#[]⟩]) 3 48 underlying40 HI.out HZ0.out HZ1.out HZ2.out rfl (by decide) _ L.length _ rfl (HST.out.on (stpA HB2.out _)).own ⟨w4.heap.size,0,none⟩ 1 1 [.string ⟨#[]⟩,.string u,.string z2] rfl rfl (zAp ((w4.setCell ⟨wr.heap.size,1,none⟩ (.string u)).setCell ⟨wr.heap.size,0,none⟩ (.string ⟨#[]⟩)) [.string ⟨#[]⟩,.string u,.string z2] 44 w4.heap.size (by rw [World.size_setCell,World.size_setCell])) (by simp [Value.oneCell']) (by have:=HLB.out;unfold maxLen;omega) (by have:=HLB.out;omega) (by have:=HST.out.sz;have:=(HB2.out).size;rw [World.size_alloc];omega) ?_;intro v5 w5 hown5 hgr5 _ hat5;obtain ⟨A5,c5,rfl⟩:=zAD hown5;have HST5:=hI (HST.out.snoc (stpA HB2.out _) ⟨⟨#[]⟩,u,z2⟩ hown5 hgr5 hat5);clear hown5 hgr5 hat5)
           | fail)
          go_roundg (gk - 1)
          case measure=>omega
          case rel=>exact ⟨j+1,L++[⟨⟨#[]⟩,u,z2⟩],A5,c5,by omega,by go_num,by rw [List.length_append];rfl,HNX.out _ HAB.out,HST5.out⟩
      · obtain rfl:j=n:=by omega
        have hjj:¬((j:Int)<(j:Int)):=by omega
        have HBL:Hid (L.map zAg=zBN o.data.toList nd):=hI (by
         rw [hL,←HNL.out,List.take_length];unfold zBN;rw [HSE.out])
        have HN1:Hid (wr.heap[w.heap.size]?=some (.cells #[.int .u8 1,.string x,.string y,.slice A j c,.string z,.int .i64 m0] 42 (0,0))):=hI ((hst.below.block w.heap.size (by omega)).trans HN0.out);have HR1:Hid (wr.heap[w.heap.size+1]?=some (.cells #[.int .u8 0,.string ⟨#[]⟩,.string ⟨#[]⟩,.slice none 0 0,.string ⟨#[]⟩,.int .i64 0] 42 (0,0))):=hI ((hst.below.block (w.heap.size+1) (by omega)).trans HR0.out);have HN2:Hid ((wr.setCell ⟨w.heap.size,1,none⟩ (.string ⟨#[]⟩)).heap[w.heap.size]?=some (.cells #[.int .u8 1,.string ⟨#[]⟩,.string y,.slice A j c,.string z,.int .i64 m0] 42 (0,0))):=hI (heap_setCell_same wr w.heap.size 1 _ _ (.string ⟨#[]⟩) HN1.out);have HN3:Hid (((wr.setCell ⟨w.heap.size,1,none⟩ (.string ⟨#[]⟩)).setCell ⟨w.heap.size,3,none⟩ (.slice A1 L.length c1)).heap[w.heap.size]?=some (.cells #[.int .u8 1,.string ⟨#[]⟩,.string y,.slice A1 L.length c1,.string z,.int .i64 m0] 42 (0,0))):=hI (heap_setCell_same (wr.setCell ⟨w.heap.size,1,none⟩ (.string ⟨#[]⟩)) w.heap.size 3 _ _ (.slice A1 L.length c1) HN2.out);have HR3:Hid (((wr.setCell ⟨w.heap.size,1,none⟩ (.string ⟨#[]⟩)).setCell ⟨w.heap.size,3,none⟩ (.slice A1 L.length c1)).heap[w.heap.size+1]?=some (.cells #[.int .u8 0,.string ⟨#[]⟩,.string ⟨#[]⟩,.slice none 0 0,.string ⟨#[]⟩,.int .i64 0] 42 (0,0))):=hI ((zAH _ _ _ _ _ (by omega)).trans ((zAH _ _ _ _ _ (by omega)).trans HR1.out));have k1:=zAA wr _ 1 _ _ _ HN1.out;have g1:=zAZ wr _ 1 _ _ HN1.out;have k3:=zAA _ _ 3 _ _ _ HN2.out;have g3:=zAZ _ _ 3 _ _ HN2.out;clear hst hL hbW
        go_wp2_with (first
         | (refine wpList_load_row rfl _ _ rfl w.heap.size rfl 42 #[.int .u8 1,.string ⟨#[]⟩,.string y,.slice A1 L.length c1,.string z,.int .i64 m0] (0,0) _ HN3.out underlying42 rfl zBr ?_)
         | (refine wpList_store_row rfl _ _ _ rfl (w.heap.size+1) #[.int .u8 1,.string ⟨#[]⟩,.string y,.slice A1 L.length c1,.string z,.int .i64 m0] rfl rfl 42 #[.int .u8 0,.string ⟨#[]⟩,.string ⟨#[]⟩,.slice none 0 0,.string ⟨#[]⟩,.int .i64 0] HR3.out zBr rfl (by simp [Value.oneCell']) ?_)
         | fail)
        (try simp only [Exit.inBlock,Exit.then,Exit.noGoto])
        exact bodyPost_ret (v:=.agg #[.int .u8 1,.string ⟨#[]⟩,.string y,.slice A1 L.length c1,.string z,.int .i64 m0]) (results_cell_row rfl _ _ _ _ _ _ _ rfl (setRow_heap _ _ _ #[.int .u8 1,.string ⟨#[]⟩,.string y,.slice A1 L.length c1,.string z,.int .i64 m0] _ _ HR3.out) underlying42 rfl zBr) rfl
         (zJW (n:=j) HST.out HBL.out HB0.out m0 HMM.out _ _ _)
 | false =>
  have HST0:Hid (BaSt (w.heap.size+2) 0 W0 [] (.slice none 0 0) [] (.slice none 0 0) W0):=hI (BaSt.nil _ _ (by rw [HS0.out];exact Nat.le_refl _));have HOD:Hid (ownD o.data.toList nd=[⟨[],zAQ,x.data.toList⟩]):=hI (by unfold ownD;rw [if_neg (λe=>of_decide_eq_false HOQ.out (HXS.out.trans e)),HXS.out]);have HLB:Hid (([]:List AB).length<=5000):=hI (Nat.zero_le _)
  go_enter func49,ntmps49
  go_wp2_with (first
   | (rw [hW0])
   | (at_builtin;refine wpList_append_own_at _ rfl (.tmp 15) (.tmp 19) 40 rfl (w.heap.size+2) 44 i0 (.agg #[.string ⟨#[]⟩,.string ⟨#[]⟩,.string ⟨#[]⟩]) 3 48 underlying40 HI.out HZ0.out HZ1.out HZ2.out rfl (by decide) _ 0 _ rfl (HST0.out.on (stpA (Below.refl W0.heap.size W0) _)).own ⟨W0.heap.size,0,none⟩ 1 1 [.string ⟨#[]⟩,.string ⟨#[120,109,108,110,115]⟩,.string x] rfl rfl (zAp W0 [.string ⟨#[]⟩,.string ⟨#[120,109,108,110,115]⟩,.string x] 44 _ rfl) (by simp [Value.oneCell']) (by have:=HLB.out;unfold maxLen;omega) (by have:=HLB.out;omega) (by have:=HST0.out.sz;have:=((Below.refl W0.heap.size W0)).size;rw [World.size_alloc];omega) ?_;intro v5 w5 hown5 hgr5 _ hat5;obtain ⟨A5,c5,rfl⟩:=zAD hown5;have HST5:=hI (HST0.out.snoc (stpA (Below.refl W0.heap.size W0) _) ⟨⟨#[]⟩,⟨#[120,109,108,110,115]⟩,x⟩ hown5 hgr5 hat5);have HN5:=hI ((HST5.out.below.block w.heap.size (by omega)).trans HN0.out);have k53:=zAA w5 _ 3 _ _ _ HN5.out;clear hown5 hgr5 hat5)
   | (go_at_call 92;(with_reducible refine (HNU.out w5 (HB0.out.trans (HST5.out.below.mono (by omega)))).mono ?_);rintro e1 w1 ⟨AS,cS,S,rfl,hS,hoS,hb1⟩;have HS1:=hI hS;have HST1:=hI (BaSt.first HST5.out.own HST5.out.sz HST5.out.below hoS hb1);clear hS hoS hb1)
   | fail)
  have HSL:Hid (S.length<=1000):=hI (by have h1:=zCE nd.attrs [];rw [←HS1.out,List.length_map] at h1;have:=HLA.out;rw [List.length_nil] at h1;omega);have bSl:(S.length:Int)<=1000:=by have:=HSL.out;omega
  obtain ⟨SL,hSL⟩:∃SL,zAn [] nd.attrs=SL:=⟨_,rfl⟩;have HSS:Hid (S.map (·.data.toList)=SL):=hI (by rw [HS1.out,hSL]);have HSE:=hI hSL;obtain ⟨bS,hbS⟩:∃bS,w5.heap.size=bS:=⟨_,rfl⟩;rw [hbS] at HST1;clear hSL hbS
  go_loopg [5,26] S.length (λgg x5 i wr=>∃(j:Nat) (L:List AB) (A1:Option Addr) (c1:Nat),j+gg=S.length/\i=.int .i64 j/\x5=.slice A1 L.length c1/\L.map zAg=ownD o.data.toList nd++numD 0 (SL.take j)/\BaSt (w.heap.size+2) bS W0 L x5 S (.slice AS S.length cS) wr)
  case atStart=>exact ⟨0,[⟨⟨#[]⟩,⟨#[120,109,108,110,115]⟩,x⟩],_,_,by omega,rfl,rfl,by rw [HOD.out];rfl,HST1.out⟩
  case round =>
   obtain ⟨j,L,A1,c1,hjg,rfl,rfl,hL,hst⟩:=hrel;have HST:=hI hst;have HL:=hI hL
   have HLB:Hid (L.length<=5000):=hI (by
    have h1:=congrArg List.length hL;rw [List.length_map,List.length_append,zDD,List.length_take] at h1;have:=zDn o.data.toList nd;have h2:=congrArg List.length HSS.out;rw [List.length_map] at h2;have:=HSL.out
    omega)
   by_cases hlt:j<S.length
   · obtain ⟨gs,offs,hA2,hcs⟩:=zMD hst.sp rfl hlt
     obtain ⟨s,hs⟩:∃s,S[j]'hlt=s:=⟨_,rfl⟩;rw [hs] at hcs;have hj6:j<=1000000:=by have:=HSL.out;omega
     obtain ⟨t,ht,hts⟩:=zFw j hj6;have HP:Hid (Calls prog 93 #[.int .i64 j] wr λe w'=>e=.returned (.string t)/\Below wr.heap.size wr w'):=hI (zET j hj6 t ht wr (HT.out.to (HB0.out.trans (hst.below.mono (by omega)))));have l1:¬9223372036854775807<6+t.size:=by omega
     obtain ⟨u,hu⟩:∃u,(⟨#[120,109,108,110,115,58]⟩:ByteArray)++t=u:=⟨_,rfl⟩
     have HNX:Hid ((ownD o.data.toList nd++numD 0 (SL.take j))++[zAg ⟨⟨#[]⟩,u,s⟩]=ownD o.data.toList nd++numD 0 (SL.take (j+1))):=hI (by
      have hj2:j<SL.length:=by rw [←HSS.out,List.length_map];exact hlt
      rw [zKG SL j hj2,List.append_assoc]
      congr 2
      unfold zAg;dsimp only;rw [←hu,zCw,ht,←hs]
      congr 1
      have:=congrArg (λl=>l[j]?) HSS.out;simp only [List.getElem?_map,List.getElem?_eq_getElem hlt,List.getElem?_eq_getElem hj2,Option.map_some,Option.some.injEq] at this;rw [this]
      rfl)
     have bj:(0:Int)<=(j:Int)/\(j:Int)<(S.length:Int):=by omega
     have hlt2:(j:Int)<(S.length:Int):=by omega
     subst hA2;clear hst hL hs ht
     go_wp2_with (first
      | (go_at_call 93;(with_reducible refine (HP.out).mono ?_);rintro e2 w2 ⟨rfl,hb2⟩;have HB2:=hI hb2;clear hb2)
      | (at_builtin;refine wpList_append_own_at _ rfl (.tmp 31) (.tmp 37) 40 rfl (w.heap.size+2) 44 i0 (.agg #[.string ⟨#[]⟩,.string ⟨#[]⟩,.string ⟨#[]⟩]) 3 48 underlying40 HI.out HZ0.out HZ1.out HZ2.out rfl (by decide) _ L.length _ rfl (HST.out.on (stpA HB2.out _)).own ⟨w2.heap.size,0,none⟩ 1 1 [.string ⟨#[]⟩,.string u,.string s] rfl rfl (zAp w2 [.string ⟨#[]⟩,.string u,.string s] 44 _ rfl) (by simp [Value.oneCell']) (by have:=HLB.out;unfold maxLen;omega) (by have:=HLB.out;omega) (by have:=HST.out.sz;have:=(HB2.out).size;rw [World.size_alloc];omega) ?_;intro v5 w5 hown5 hgr5 _ hat5;obtain ⟨A5,c5,rfl⟩:=zAD hown5;have HST5:=hI (HST.out.snoc (stpA HB2.out _) ⟨⟨#[]⟩,u,s⟩ hown5 hgr5 hat5);clear hown5 hgr5 hat5)
      | fail)
     go_roundg (gk - 1)
     case measure=>omega
     case rel=>exact ⟨j+1,L++[⟨⟨#[]⟩,u,s⟩],A5,c5,by omega,by go_num,by rw [List.length_append];rfl,by rw [List.map_append,HL.out];exact HNX.out,HST5.out⟩
   · obtain rfl:j=S.length:=by omega
     have hjj:¬((S.length:Int)<(S.length:Int)):=by omega
     have HLE:Hid (L.map zAg=ownD o.data.toList nd++(numD 0 SL++(nd.attrs.take 0).map (zBF SL))):=hI (by
      rw [hL,List.take_of_length_le (by rw [←HSS.out,List.length_map];exact Nat.le_refl _)]
      simp)
     have HNr:Hid (wr.heap[w.heap.size]?=some (.cells #[.int .u8 1,.string x,.string y,.slice A n c,.string z,.int .i64 m0] 42 (0,0))):=hI ((hst.below.block w.heap.size (by omega)).trans HN0.out);have kr3:=zAA wr _ 3 _ _ _ HNr.out;have HSTA:Hid (BaSt (w.heap.size+2) bS W0 L (.slice A1 L.length c1) S (.slice AS S.length cS) wr):=HST;obtain ⟨wo,hwo⟩:∃wo:World,wo=wr:=⟨_,rfl⟩;clear hst hL HL HST HLB
     go_wp2_with fail
     go_loopg [5,43] n (λgg x5 i wr=>∃(j:Nat) (L:List AB) (A1:Option Addr) (c1:Nat),j+gg=n/\i=.int .i64 j/\x5=.slice A1 L.length c1/\L.map zAg=ownD o.data.toList nd++(numD 0 SL++(nd.attrs.take j).map (zBF SL))/\BaSt (w.heap.size+2) bS W0 L x5 S (.slice AS S.length cS) wr)
     case atStart=>exact ⟨0,L,A1,c1,by omega,rfl,rfl,HLE.out,HSTA.out⟩
     case round =>
      clear HSTA HLE HNr kr3;obtain ⟨j,L,A1,c1,hjg,rfl,rfl,hL,hst⟩:=hrel;have HST:=hI hst;have HL:=hI hL
      have HLB:Hid (L.length<=5000):=hI (by
       have h1:=congrArg List.length hL;rw [List.length_map,List.length_append,List.length_append,zDD,List.length_map,List.length_take] at h1;have:=zDn o.data.toList nd;have h2:=congrArg List.length HSS.out;rw [List.length_map] at h2;have:=HSL.out;have:=HLA.out
       omega)
      have hbW:Below w.heap.size w wr:=HB0.out.trans (hst.below.mono (by omega))
      by_cases hlt:j<n
      · have hjl:j<nd.attrs.length:=by rw [HNL.out];exact hlt
        obtain ⟨b0,off,x2,y2,z2,hA,hbB,hx,hy,hz,q0,q1,q2⟩:=zDL (HRA.out wr hbW) hjl;have hea:=HEA.out _ (List.getElem_mem hjl);obtain ⟨a,ha⟩:∃a,nd.attrs[j]'hjl=a:=⟨_,rfl⟩;rw [ha] at hx hy hz hea;have hys2:y2.size<=1000000:=by rw [zNf hy];exact hea.2.1
        have bj:(0:Int)<=(j:Int)/\(j:Int)<(n:Int):=by omega
        have hlt2:(j:Int)<(n:Int):=by omega
        obtain ⟨W1,hW1⟩:∃W1,wr.alloc (.cells #[.string x2,.string y2,.string z2] 44)=W1:=⟨_,rfl⟩;have HB1:Hid (Below wr.heap.size wr W1):=hI (by rw [←hW1];exact stpA (Below.refl _ _) _);have HX1:Hid (W1.heap[wr.heap.size]?=some (.cells #[.string x2,.string y2,.string z2] 44 (0,0))):=hI (by rw [←hW1];exact heap_alloc_new wr _);have k10:=zAA W1 _ 0 _ _ _ HX1.out;have k11:=zAA W1 _ 1 _ _ _ HX1.out;have g10:=zAZ W1 _ 0 _ _ HX1.out;have g11:=zAZ W1 _ 1 _ _ HX1.out;obtain ⟨p1,h1⟩:∃p,decide (x2.data.toList=[])=p:=⟨_,rfl⟩;obtain ⟨p2,h2⟩:∃p,decide (x2.data.toList=zAr)=p:=⟨_,rfl⟩;have f1:=zD2 x2 p1 h1;have f2:=zCO x2 zAr p2 h2;unfold zAr at f2
        have HNX:Hid (∀b:AB,zAg b=zBF SL a->(L++[b]).map zAg=ownD o.data.toList nd++(numD 0 SL++(nd.attrs.take (j+1)).map (zBF SL))):=hI λb hb=>by
         rw [List.map_append,hL,List.take_succ_eq_append_getElem hjl,ha,List.map_append,List.append_assoc,List.append_assoc];rw [List.map_cons,List.map_nil,hb]
         rfl
        subst hA
        cases p1 with
        | true =>
         have HAB:Hid (zAg ⟨⟨#[]⟩,y2,z2⟩=zBF SL a):=hI (by unfold zBF zAg;rw [if_pos (by rw [←hx];exact of_decide_eq_true h1)];dsimp only;rw [hy,hz]);have HX2:Hid ((W1.setCell ⟨wr.heap.size,0,none⟩ (.string ⟨#[]⟩)).heap[wr.heap.size]?=some (.cells #[.string ⟨#[]⟩,.string y2,.string z2] 44 (0,0))):=hI (heap_setCell_same W1 wr.heap.size 0 _ _ (.string ⟨#[]⟩) HX1.out);have HB2:Hid (Below wr.heap.size wr (W1.setCell ⟨wr.heap.size,0,none⟩ (.string ⟨#[]⟩))):=hI (HB1.out.setCell (p:=⟨wr.heap.size,0,none⟩) (Nat.le_refl _) _);clear hst hL hbW hx hy hz ha hea h1 h2 hjl hbB
         go_wp2_with (first
          | (refine wpList_store_row rfl _ _ _ rfl wr.heap.size #[.string x2,.string y2,.string z2] rfl rfl 44 #[.string ⟨#[]⟩,.string ⟨#[]⟩,.string ⟨#[]⟩] (heap_alloc_new _ _) zAX rfl (by simp [Value.oneCell']) ?_;rw [World.setRow_alloc_new,hW1])
          | (refine wpList_load_row rfl _ _ rfl wr.heap.size rfl 44 #[.string ⟨#[]⟩,.string y2,.string z2] (0,0) _ HX2.out underlying44 rfl zAX ?_)
          | (at_builtin;refine wpList_append_own_at _ rfl (.tmp 68) (.tmp 70) 40 rfl (w.heap.size+2) 44 i0 (.agg #[.string ⟨#[]⟩,.string ⟨#[]⟩,.string ⟨#[]⟩]) 3 48 underlying40 HI.out HZ0.out HZ1.out HZ2.out rfl (by decide) _ L.length _ rfl (HST.out.on (stpA HB2.out _)).own ⟨W1.heap.size,0,none⟩ 1 1 [.string ⟨#[]⟩,.string y2,.string z2] rfl rfl (zAp (W1.setCell ⟨wr.heap.size,0,none⟩ (.string ⟨#[]⟩)) [.string ⟨#[]⟩,.string y2,.string z2] 44 W1.heap.size (by rw [World.size_setCell])) (by simp [Value.oneCell']) (by have:=HLB.out;unfold maxLen;omega) (by have:=HLB.out;omega) (by have:=HST.out.sz;have:=(HB2.out).size;rw [World.size_alloc];omega) ?_;intro v5 w5 hown5 hgr5 _ hat5;obtain ⟨A5,c5,rfl⟩:=zAD hown5;have HST5:=hI (HST.out.snoc (stpA HB2.out _) ⟨⟨#[]⟩,y2,z2⟩ hown5 hgr5 hat5);clear hown5 hgr5 hat5)
          | fail)
         go_roundg (gk - 1)
         case measure=>omega
         case rel=>exact ⟨j+1,L++[⟨⟨#[]⟩,y2,z2⟩],A5,c5,by omega,by go_num,by rw [List.length_append];rfl,HNX.out _ HAB.out,HST5.out⟩
        | false =>
         cases p2 with
         | true =>
          obtain ⟨u,hu⟩:∃u,(⟨#[120,109,108,58]⟩:ByteArray)++y2=u:=⟨_,rfl⟩;have l1:¬9223372036854775807<4+y2.size:=by omega
          have HAB:Hid (zAg ⟨⟨#[]⟩,u,z2⟩=zBF SL a):=hI (by
           unfold zBF zAg;rw [if_neg (by rw [←hx];exact of_decide_eq_false h1),if_pos (by rw [←hx];exact of_decide_eq_true h2)];dsimp only;rw [←hu,zCw,hy,hz]
           rfl)
          have HX2:Hid ((W1.setCell ⟨wr.heap.size,1,none⟩ (.string u)).heap[wr.heap.size]?=some (.cells #[.string x2,.string u,.string z2] 44 (0,0))):=hI (heap_setCell_same W1 wr.heap.size 1 _ _ (.string u) HX1.out);have k20:=zAA _ _ 0 _ _ _ HX2.out;have g20:=zAZ _ _ 0 _ _ HX2.out;have HX3:Hid (((W1.setCell ⟨wr.heap.size,1,none⟩ (.string u)).setCell ⟨wr.heap.size,0,none⟩ (.string ⟨#[]⟩)).heap[wr.heap.size]?=some (.cells #[.string ⟨#[]⟩,.string u,.string z2] 44 (0,0))):=hI (heap_setCell_same (W1.setCell ⟨wr.heap.size,1,none⟩ (.string u)) wr.heap.size 0 _ _ (.string ⟨#[]⟩) HX2.out);have HB2:Hid (Below wr.heap.size wr ((W1.setCell ⟨wr.heap.size,1,none⟩ (.string u)).setCell ⟨wr.heap.size,0,none⟩ (.string ⟨#[]⟩))):=hI ((HB1.out.setCell (p:=⟨wr.heap.size,1,none⟩) (Nat.le_refl _) _).setCell (p:=⟨wr.heap.size,0,none⟩) (Nat.le_refl _) _);clear hst hL hbW hx hy hz ha hea h1 h2 hjl hbB
          go_wp2_with (first
           | (refine wpList_store_row rfl _ _ _ rfl wr.heap.size #[.string x2,.string y2,.string z2] rfl rfl 44 #[.string ⟨#[]⟩,.string ⟨#[]⟩,.string ⟨#[]⟩] (heap_alloc_new _ _) zAX rfl (by simp [Value.oneCell']) ?_;rw [World.setRow_alloc_new,hW1])
           | (refine wpList_load_row rfl _ _ rfl wr.heap.size rfl 44 #[.string ⟨#[]⟩,.string u,.string z2] (0,0) _ HX3.out underlying44 rfl zAX ?_)
           | (at_builtin;refine wpList_append_own_at _ rfl (.tmp 68) (.tmp 70) 40 rfl (w.heap.size+2) 44 i0 (.agg #[.string ⟨#[]⟩,.string ⟨#[]⟩,.string ⟨#[]⟩]) 3 48 underlying40 HI.out HZ0.out HZ1.out HZ2.out rfl (by decide) _ L.length _ rfl (HST.out.on (stpA HB2.out _)).own ⟨W1.heap.size,0,none⟩ 1 1 [.string ⟨#[]⟩,.string u,.string z2] rfl rfl (zAp ((W1.setCell ⟨wr.heap.size,1,none⟩ (.string u)).setCell ⟨wr.heap.size,0,none⟩ (.string ⟨#[]⟩)) [.string ⟨#[]⟩,.string u,.string z2] 44 W1.heap.size (by rw [World.size_setCell,World.size_setCell])) (by simp [Value.oneCell']) (by have:=HLB.out;unfold maxLen;omega) (by have:=HLB.out;omega) (by have:=HST.out.sz;have:=(HB2.out).size;rw [World.size_alloc];omega) ?_;intro v5 w5 hown5 hgr5 _ hat5;obtain ⟨A5,c5,rfl⟩:=zAD hown5;have HST5:=hI (HST.out.snoc (stpA HB2.out _) ⟨⟨#[]⟩,u,z2⟩ hown5 hgr5 hat5);clear hown5 hgr5 hat5)
           | fail)
          go_roundg (gk - 1)
          case measure=>omega
          case rel=>exact ⟨j+1,L++[⟨⟨#[]⟩,u,z2⟩],A5,c5,by omega,by go_num,by rw [List.length_append];rfl,HNX.out _ HAB.out,HST5.out⟩
         | false =>
          have hmem:x2.data.toList∈S.map (·.data.toList):=by
           rw [HSS.out,←HSE.out,hx];have:=(zBQ nd.attrs []).2.1 a (by rw [←ha];exact List.getElem_mem hjl);rw [←hx] at this ⊢;exact this (of_decide_eq_false h1) (of_decide_eq_false h2)
          obtain ⟨k,hk⟩:∃k,(S.map (·.data.toList)).idxOf x2.data.toList=k:=⟨_,rfl⟩
          have hkS:k<S.length:=by
           have:=List.idxOf_lt_length_of_mem hmem;rw [hk,List.length_map] at this;exact this
          have hk6:k<=1000000:=by have:=HSL.out;omega
          obtain ⟨t,ht,hts⟩:=zFw k hk6;have HIX:Hid (∀W,Below wr.heap.size wr W->Calls prog 94 #[.slice AS S.length cS,.string x2] W λe w'=>e=.returned (.int .i64 (k:Int))/\Below W.heap.size W w'):=hI λW hW=>zR0 AS S.length cS bS S W (hst.on hW).sp rfl (by have:=HSL.out;omega) x2 k hmem hk
          have HP:Hid (∀W,Below wr.heap.size wr W->Calls prog 93 #[.int .i64 k] W λe w'=>e=.returned (.string t)/\Below W.heap.size W w'):=hI λW hW=>zET k hk6 t ht W (HT.out.to (hbW.trans (hW.mono hbW.size)))
          have l1:¬9223372036854775807<t.size+1:=by omega
          have l2:¬9223372036854775807<(t++⟨#[58]⟩).size+y2.size:=by
           have:(t++(⟨#[58]⟩:ByteArray)).size=t.size+1:=by rw [ByteArray.size_append];rfl
           omega
          obtain ⟨u1,hu1⟩:∃u1,t++(⟨#[58]⟩:ByteArray)=u1:=⟨_,rfl⟩;rw [hu1] at l2;obtain ⟨u,hu⟩:∃u,u1++y2=u:=⟨_,rfl⟩
          have HAB:Hid (zAg ⟨⟨#[]⟩,u,z2⟩=zBF SL a):=hI (by
           unfold zBF zAg;rw [if_neg (by rw [←hx];exact of_decide_eq_false h1),if_neg (by rw [←hx];exact of_decide_eq_false h2)];dsimp only;rw [←hu,zCw,←hu1,zCw,ht,hy,hz,←HSS.out,←hx,hk,List.append_assoc]
           rfl)
          clear hst hL hbW hx hy hz ha hea h1 h2 hjl hbB hmem hk ht
          go_wp2_with (first
           | (refine wpList_store_row rfl _ _ _ rfl wr.heap.size #[.string x2,.string y2,.string z2] rfl rfl 44 #[.string ⟨#[]⟩,.string ⟨#[]⟩,.string ⟨#[]⟩] (heap_alloc_new _ _) zAX rfl (by simp [Value.oneCell']) ?_;rw [World.setRow_alloc_new,hW1])
           | fail)
          clear q0 q1 q2 k10 k11 g10 g11;refine wp_region_noPanic ?_;refine zAN (λW=>W.cell? ⟨wr.heap.size,0,none⟩=some (.string x2)/\W.cell? ⟨wr.heap.size,1,none⟩=some (.string y2)) 10 (by kernel_rfl) ?_;have hS0:W1.drew.cell? ⟨wr.heap.size,0,none⟩=some (.string x2)/\W1.drew.cell? ⟨wr.heap.size,1,none⟩=some (.string y2):=⟨zAA W1 _ 0 _ _ _ HX1.out,zAA W1 _ 1 _ _ _ HX1.out⟩;refine tkZ (i:=0) (v:=.slice AS S.length cS) rfl (Or.inl ⟨by rfl,?_⟩) hS0 ?_
          · intro w' hSw;(try dsimp only at hSw);go_simp
          try simp only [Act.put,sTA,sTB,sTC]
          refine tkZ (i:=1) (v:=.pointer (some ⟨wr.heap.size,0,none⟩)) rfl (Or.inl ⟨by rfl,?_⟩) hS0 ?_
          · intro w' hSw;(try dsimp only at hSw);go_simp
          try simp only [Act.put,sTA,sTB,sTC]
          refine tkZ (i:=2) (v:=.string x2) rfl (Or.inl ⟨by rfl,?_⟩) hS0 ?_
          · intro w' hSw;(try dsimp only at hSw);go_simp
          try simp only [Act.put,sTA,sTB,sTC]
          refine tkZ (i:=6) (v:=.pointer (some ⟨wr.heap.size,1,none⟩)) rfl (Or.inl ⟨by rfl,?_⟩) hS0 ?_
          · intro w' hSw;(try dsimp only at hSw);go_simp
          try simp only [Act.put,sTA,sTB,sTC]
          refine tkZ (i:=7) (v:=.string y2) rfl (Or.inl ⟨by rfl,?_⟩) hS0 ?_
          · intro w' hSw;(try dsimp only at hSw);go_simp
          try simp only [Act.put,sTA,sTB,sTC]
          refine zAS (i:=3) (by kernel_rfl) rfl (λK hK=>?_)
          go_simp
          go_at_call 94;(with_reducible refine (HIX.out W1.drew HB1.out.drew).mono ?_);rintro e3 w3 ⟨rfl,hb3⟩;have HB3:Hid (Below wr.heap.size wr w3):=hI (HB1.out.drew.trans (hb3.mono HB1.out.drew.size));have HX3:Hid (w3.heap[wr.heap.size]?=some (.cells #[.string x2,.string y2,.string z2] 44 (0,0))):=hI (zAB (a:=W1.drew) HX1.out hb3);clear hb3
          have hS3:w3.cell? ⟨wr.heap.size,0,none⟩=some (.string x2)/\w3.cell? ⟨wr.heap.size,1,none⟩=some (.string y2):=⟨zAA w3 _ 0 _ _ _ HX3.out,zAA w3 _ 1 _ _ _ HX3.out⟩
          go_wp2_with fail
          refine hK.out _ _ (λ_=>hS3) (λ_=>?_);clear hK K hS0
          try simp only [Act.put,sTA,sTB,sTC]
          refine zAS (i:=4) (by kernel_rfl) rfl (λK hK=>?_)
          go_simp
          go_at_call 93;(with_reducible refine (HP.out w3 HB3.out).mono ?_);rintro e4 w4 ⟨rfl,hb4⟩;have HB4:Hid (Below wr.heap.size wr w4):=hI (HB3.out.trans (hb4.mono HB3.out.size));have HX4:Hid (w4.heap[wr.heap.size]?=some (.cells #[.string x2,.string y2,.string z2] 44 (0,0))):=hI (zAB HX3.out hb4);clear hb4
          have hS4:w4.cell? ⟨wr.heap.size,0,none⟩=some (.string x2)/\w4.cell? ⟨wr.heap.size,1,none⟩=some (.string y2):=⟨zAA w4 _ 0 _ _ _ HX4.out,zAA w4 _ 1 _ _ _ HX4.out⟩
          go_wp2_with fail
          refine hK.out _ _ (λ_=>hS4) (λ_=>?_);clear hK K hS3
          try simp only [Act.put,sTA,sTB,sTC]
          refine tkZ (i:=5) (v:=.string u1) rfl (Or.inl ⟨by rfl,?_⟩) hS4 ?_
          · intro w' hSw;(try dsimp only at hSw);go_simp
          try simp only [Act.put,sTA,sTB,sTC]
          refine tkZ (i:=8) (v:=.string u) rfl (Or.inl ⟨by rfl,?_⟩) hS4 ?_
          · intro w' hSw;(try dsimp only at hSw);go_simp
          try simp only [Act.put,sTA,sTB,sTC]
          refine tkZ (i:=9) (v:=.pointer (some ⟨wr.heap.size,1,none⟩)) rfl (Or.inl ⟨by rfl,?_⟩) hS4 ?_
          · intro w' hSw;(try dsimp only at hSw);go_simp
          try simp only [Act.put,sTA,sTB,sTC]
          refine zAS (i:=10) (by kernel_rfl) rfl (λK hK=>?_);have k41:=hS4.2;have g41:=zAZ w4 _ 1 _ _ HX4.out
          go_simp
          refine hK.out _ _ (λh=>absurd rfl h) (λ_=>?_);clear hK K k41 g41
          try simp only [Act.put,sTA,sTB,sTC]
          refine zCU (by kernel_rfl) ?_ _;refine NoPanic.normal ?_;have HX5:Hid ((w4.setCell ⟨wr.heap.size,1,none⟩ (.string u)).heap[wr.heap.size]?=some (.cells #[.string x2,.string u,.string z2] 44 (0,0))):=hI (heap_setCell_same w4 wr.heap.size 1 _ _ (.string u) HX4.out);have k50:=zAA _ _ 0 _ _ _ HX5.out;have g50:=zAZ _ _ 0 _ _ HX5.out;have HX6:Hid (((w4.setCell ⟨wr.heap.size,1,none⟩ (.string u)).setCell ⟨wr.heap.size,0,none⟩ (.string ⟨#[]⟩)).heap[wr.heap.size]?=some (.cells #[.string ⟨#[]⟩,.string u,.string z2] 44 (0,0))):=hI (heap_setCell_same (w4.setCell ⟨wr.heap.size,1,none⟩ (.string u)) wr.heap.size 0 _ _ (.string ⟨#[]⟩) HX5.out);have HB2:Hid (Below wr.heap.size wr ((w4.setCell ⟨wr.heap.size,1,none⟩ (.string u)).setCell ⟨wr.heap.size,0,none⟩ (.string ⟨#[]⟩))):=hI ((HB4.out.setCell (p:=⟨wr.heap.size,1,none⟩) (Nat.le_refl _) _).setCell (p:=⟨wr.heap.size,0,none⟩) (Nat.le_refl _) _);clear hS4
          go_wp2_with (first
           | (refine wpList_load_row rfl _ _ rfl wr.heap.size rfl 44 #[.string ⟨#[]⟩,.string u,.string z2] (0,0) _ HX6.out underlying44 rfl zAX ?_)
           | (at_builtin;refine wpList_append_own_at _ rfl (.tmp 68) (.tmp 70) 40 rfl (w.heap.size+2) 44 i0 (.agg #[.string ⟨#[]⟩,.string ⟨#[]⟩,.string ⟨#[]⟩]) 3 48 underlying40 HI.out HZ0.out HZ1.out HZ2.out rfl (by decide) _ L.length _ rfl (HST.out.on (stpA HB2.out _)).own ⟨w4.heap.size,0,none⟩ 1 1 [.string ⟨#[]⟩,.string u,.string z2] rfl rfl (zAp ((w4.setCell ⟨wr.heap.size,1,none⟩ (.string u)).setCell ⟨wr.heap.size,0,none⟩ (.string ⟨#[]⟩)) [.string ⟨#[]⟩,.string u,.string z2] 44 w4.heap.size (by rw [World.size_setCell,World.size_setCell])) (by simp [Value.oneCell']) (by have:=HLB.out;unfold maxLen;omega) (by have:=HLB.out;omega) (by have:=HST.out.sz;have:=(HB2.out).size;rw [World.size_alloc];omega) ?_;intro v5 w5 hown5 hgr5 _ hat5;obtain ⟨A5,c5,rfl⟩:=zAD hown5;have HST5:=hI (HST.out.snoc (stpA HB2.out _) ⟨⟨#[]⟩,u,z2⟩ hown5 hgr5 hat5);clear hown5 hgr5 hat5)
           | fail)
          go_roundg (gk - 1)
          case measure=>omega
          case rel=>exact ⟨j+1,L++[⟨⟨#[]⟩,u,z2⟩],A5,c5,by omega,by go_num,by rw [List.length_append];rfl,HNX.out _ HAB.out,HST5.out⟩
      · obtain rfl:j=n:=by omega
        have hjj:¬((j:Int)<(j:Int)):=by omega
        have HBL:Hid (L.map zAg=zBN o.data.toList nd):=hI (by
         rw [hL,←HNL.out,List.take_length];unfold zBN;rw [HSE.out])
        have HN1:Hid (wr.heap[w.heap.size]?=some (.cells #[.int .u8 1,.string x,.string y,.slice A j c,.string z,.int .i64 m0] 42 (0,0))):=hI ((hst.below.block w.heap.size (by omega)).trans HN0.out);have HR1:Hid (wr.heap[w.heap.size+1]?=some (.cells #[.int .u8 0,.string ⟨#[]⟩,.string ⟨#[]⟩,.slice none 0 0,.string ⟨#[]⟩,.int .i64 0] 42 (0,0))):=hI ((hst.below.block (w.heap.size+1) (by omega)).trans HR0.out);have HN2:Hid ((wr.setCell ⟨w.heap.size,1,none⟩ (.string ⟨#[]⟩)).heap[w.heap.size]?=some (.cells #[.int .u8 1,.string ⟨#[]⟩,.string y,.slice A j c,.string z,.int .i64 m0] 42 (0,0))):=hI (heap_setCell_same wr w.heap.size 1 _ _ (.string ⟨#[]⟩) HN1.out);have HN3:Hid (((wr.setCell ⟨w.heap.size,1,none⟩ (.string ⟨#[]⟩)).setCell ⟨w.heap.size,3,none⟩ (.slice A1 L.length c1)).heap[w.heap.size]?=some (.cells #[.int .u8 1,.string ⟨#[]⟩,.string y,.slice A1 L.length c1,.string z,.int .i64 m0] 42 (0,0))):=hI (heap_setCell_same (wr.setCell ⟨w.heap.size,1,none⟩ (.string ⟨#[]⟩)) w.heap.size 3 _ _ (.slice A1 L.length c1) HN2.out);have HR3:Hid (((wr.setCell ⟨w.heap.size,1,none⟩ (.string ⟨#[]⟩)).setCell ⟨w.heap.size,3,none⟩ (.slice A1 L.length c1)).heap[w.heap.size+1]?=some (.cells #[.int .u8 0,.string ⟨#[]⟩,.string ⟨#[]⟩,.slice none 0 0,.string ⟨#[]⟩,.int .i64 0] 42 (0,0))):=hI ((zAH _ _ _ _ _ (by omega)).trans ((zAH _ _ _ _ _ (by omega)).trans HR1.out));have k1:=zAA wr _ 1 _ _ _ HN1.out;have g1:=zAZ wr _ 1 _ _ HN1.out;have k3:=zAA _ _ 3 _ _ _ HN2.out;have g3:=zAZ _ _ 3 _ _ HN2.out;clear hst hL hbW
        go_wp2_with (first
         | (refine wpList_load_row rfl _ _ rfl w.heap.size rfl 42 #[.int .u8 1,.string ⟨#[]⟩,.string y,.slice A1 L.length c1,.string z,.int .i64 m0] (0,0) _ HN3.out underlying42 rfl zBr ?_)
         | (refine wpList_store_row rfl _ _ _ rfl (w.heap.size+1) #[.int .u8 1,.string ⟨#[]⟩,.string y,.slice A1 L.length c1,.string z,.int .i64 m0] rfl rfl 42 #[.int .u8 0,.string ⟨#[]⟩,.string ⟨#[]⟩,.slice none 0 0,.string ⟨#[]⟩,.int .i64 0] HR3.out zBr rfl (by simp [Value.oneCell']) ?_)
         | fail)
        (try simp only [Exit.inBlock,Exit.then,Exit.noGoto])
        exact bodyPost_ret (v:=.agg #[.int .u8 1,.string ⟨#[]⟩,.string y,.slice A1 L.length c1,.string z,.int .i64 m0]) (results_cell_row rfl _ _ _ _ _ _ _ rfl (setRow_heap _ _ _ #[.int .u8 1,.string ⟨#[]⟩,.string y,.slice A1 L.length c1,.string z,.int .i64 m0] _ _ HR3.out) underlying42 rfl zBr) rfl
         (zJW (n:=j) HST.out HBL.out HB0.out m0 HMM.out _ _ _)
def zCp (gv gl gt:Nat):Value:=.func (.func 48) #[] #[.pointer (some ⟨gv,0,none⟩),.pointer (some ⟨gl,0,none⟩),.pointer (some ⟨gt,0,none⟩)]
theorem zJ6 (B base gv gl gt:Nat) (A:Option Addr) (c:Nat) (v:List Nd) (hl:v.length<=512) (o:ByteArray) (d:Nat) (L:List NB) (V:Value) (w:World) (hp:L.length<v.length) (h:RwSt (zCp gv gl gt) 38 B base gv gl gt A c v L V w) (hk:(v[L.length]'hp).kind=2) (hok:ndOk (v[L.length]'hp)=true) :
 Calls prog 48 #[.string o,.pointer (some ⟨gv,0,none⟩),.pointer (some ⟨gl,0,none⟩),.pointer (some ⟨gt,0,none⟩)] w (zEH (zCp gv gl gt) 38 B base gv gl gt A c v L V (zAK zCQ zA3 d o.data.toList (v.drop L.length)) w):=by
 obtain ⟨i0,hi,hz0,hz1,hz2⟩:=info_parts zFB;have HI:=hI hi;have HZ0:=hI hz0;have HZ1:=hI hz1;have HZ2:=hI hz2;obtain ⟨Va,Vc,rfl⟩:=zAD h.own;obtain ⟨b0,off,x,y,t,A1,c1,hA,hbB,hin,q0,q1,q2,q3,q4,q5⟩:=zCL h.rd hp;have hBw:B<=w.heap.size:=by have:=h.ord;have:=h.sz;omega
 have hdr:=List.drop_eq_getElem_cons hp;obtain ⟨nd,hnd⟩:∃nd,v[L.length]'hp=nd:=⟨_,rfl⟩;rw [hnd] at hin q0 q3 q5 hdr hk hok;rw [hdr];obtain ⟨n,hn⟩:∃n,v.length=n:=⟨_,rfl⟩;have HLN:=hI hn;obtain ⟨n1,hn1⟩:∃n1,nd.attrs.length=n1:=⟨_,rfl⟩;have bp:(0:Int)<=(L.length:Int)/\(L.length:Int)<(n:Int):=by omega
 have bn:(n:Int)<=512:=by omega
 have HPN:Hid (L.length<=512):=hI (by omega);have kv:=cell_of_one h.hv;have kl:=cell_of_one h.hl;have HST:=hI h;rw [hn] at kv;rw [hn1] at q3;have HIN:=hI hin;rw [zFf hk];obtain ⟨mm,hmm⟩:∃mm,nd.many=mm:=⟨_,rfl⟩;rw [hmm] at q5;have HCE:Hid (zAL ⟨nd,x,y,t,A1,c1⟩=[.int .u8 2,.string x,.string y,.slice A1 n1 c1,.string t,.int .i64 mm]):=hI (by unfold zAL zBp;rw [hk,hn1,hmm];rfl);have HAT:=hI (zA6 hok hk).2.2.2.1;rw [hk,show ((2:Nat):Int)=2 from rfl] at q0;obtain ⟨W0,hW0⟩:∃W0,w.alloc (.cells #[.int .u8 2,.string x,.string y,.slice A1 n1 c1,.string t,.int .i64 mm] 42)=W0:=⟨_,rfl⟩;have HB0:Hid (Below w.heap.size w W0):=hI (by rw [←hW0];exact stpA (Below.refl _ _) _);have HX0:Hid (W0.heap[w.heap.size]?=some (.cells #[.int .u8 2,.string x,.string y,.slice A1 n1 c1,.string t,.int .i64 mm] 42 (0,0))):=hI (by rw [←hW0];exact heap_alloc_new w _);have HS0:=hI (h.below HB0.out);have k00:=zAA W0 _ 0 _ _ _ HX0.out;have kl0:=cell_of_one HS0.out.hl;have hBw2:=hI hBw;subst hA;clear hi hz0 hz1 hz2 h hin hdr hk hok hnd hbB hBw hn1 hmm hn hl hp
 go_enter func48,ntmps48
 go_wp2_with (first
  | (refine wpList_store_row rfl _ _ _ rfl w.heap.size #[.int .u8 2,.string x,.string y,.slice A1 n1 c1,.string t,.int .i64 mm] rfl rfl 42 #[.int .u8 0,.string ⟨#[]⟩,.string ⟨#[]⟩,.slice none 0 0,.string ⟨#[]⟩,.int .i64 0] (heap_alloc_new _ _) zBr rfl (by simp [Value.oneCell']) ?_;rw [World.setRow_alloc_new,hW0])
  | (refine wpList_load_row rfl _ _ rfl w.heap.size rfl 42 #[.int .u8 2,.string x,.string y,.slice A1 n1 c1,.string t,.int .i64 mm] (0,0) _ HX0.out underlying42 rfl zBr ?_)
  | (at_builtin;refine wpList_append_own_at _ rfl (.tmp 15) (.tmp 17) 22 rfl base 42 i0 (.agg #[.int .u8 0,.string ⟨#[]⟩,.string ⟨#[]⟩,.slice none 0 0,.string ⟨#[]⟩,.int .i64 0]) 6 88 underlying22 HI.out HZ0.out HZ1.out HZ2.out rfl (by decide) _ L.length _ rfl (zAF HS0.out.own (stpA (Below.refl _ _) _) (Nat.le_refl _)) ⟨W0.heap.size,0,none⟩ 1 1 [.int .u8 2,.string x,.string y,.slice A1 n1 c1,.string t,.int .i64 mm] rfl rfl (zAp W0 [.int .u8 2,.string x,.string y,.slice A1 n1 c1,.string t,.int .i64 mm] 42 _ rfl) (by simp [Value.oneCell']) (by have:=HPN.out;unfold maxLen;omega) (by have:=HPN.out;omega) (by have:=HS0.out.sz;rw [World.size_alloc];omega) ?_;intro v5 w5 hown5 hgr5 _ hat5;obtain ⟨g5,c5,rfl⟩:=zEy hown5;rw [←HCE.out] at hown5;have HPU5:=hI (HS0.out.push (b:=⟨nd,x,y,t,A1,c1⟩) (HIN.out.plain HAT.out) hown5 hgr5 (by have:=zNL hat5;rwa [World.size_alloc] at this));have hgl5:w5.heap[gl]?=some (.cells #[.slice Va L.length Vc] 22 (0,0)):=(hgr5.block _ (by rw [World.size_alloc];have:=zAY HS0.out.hl;omega) (λe=>by have:=(HS0.out.own.lt _ e.symm).1;have:=HS0.out.ord;omega)).trans ((Below.heap_alloc _ _ _ (zAY HS0.out.hl)).trans HS0.out.hl);have kl5:=zAA w5 gl 0 _ _ _ hgl5;have fl5:=zAZ w5 gl 0 _ _ hgl5;clear hown5 hgr5 hat5 hgl5)
  | fail)
 go_ret
 exact ⟨[⟨nd,x,y,t,A1,c1⟩],_,rfl,(FrR.of_below HB0.out hBw2.out).trans HPU5.out.2,HPU5.out.1,λ_=>rfl⟩
def zRH (B base gv gl gt:Nat) (A:Option Addr) (c:Nat) (v:List Nd) (d:Nat):Prop:=∀(o:ByteArray) (L:List NB) (V:Value) (r:List Nd) (w:World),(∀W,Below B w W->TbH W)->L.length<v.length->zAE d (v.drop L.length)=some r->RwSt (zCp gv gl gt) 38 B base gv gl gt A c v L V w →
 Calls prog 48 #[.string o,.pointer (some ⟨gv,0,none⟩),.pointer (some ⟨gl,0,none⟩),.pointer (some ⟨gt,0,none⟩)] w (zEH (zCp gv gl gt) 38 B base gv gl gt A c v L V (zAK zCQ zA3 d o.data.toList (v.drop L.length)) w)
theorem zNt {w:World} {base base' size n:Nat} {e:TypeId} {v:Value} {xs:List Value} (h:w.ownsRow base e size v n xs) (hb:base'≤base):w.ownsRow base' e size v n xs:=by
 refine ⟨h.1,?_⟩;rcases h.2 with h0 | ⟨g,cap,cur,hv,hg,rest⟩
 · exact .inl h0
 · exact .inr ⟨g,cap,cur,hv,Nat.le_trans hb hg,rest⟩
theorem zQf {base m0:Nat} {V:Value} {w5 w2:World} {y t:ByteArray} {A':Option Addr} {c':Nat} {L:List AB} {o:List UInt8} {nd:Nd} (ho:w5.ownsRow (w2.heap.size+2) 44 3 (.slice A' L.length c') L.length (L.flatMap zAi)) (hb:base<=w2.heap.size) (hV:∀k,V.ownBlock=some k->k<w2.heap.size)
 (h2:y.data.toList=nd.name) (h3:L.map zAg=zBN o nd) (h4:t.data.toList=[]) (h6:0<=nd.many/\nd.many<=9223372036854775807) (hm:nd.many=(m0:Int)) :
 NdIn (zCy o nd) ⟨#[]⟩ y t A' c' w5 (OffN base V w5)/\zAL ⟨zCy o nd,⟨#[]⟩,y,t,A',c'⟩=[.int .u8 1,.string ⟨#[]⟩,.string y,.slice A' L.length c',.string t,.int .i64 (m0:Int)]:=by
 obtain ⟨r1,r2⟩:=zPc (q:=zCy o nd) (s:=⟨#[]⟩) (zNt ho (Nat.le_add_right _ 2)) hb hV rfl h2 h3 h4 (show 1<256 by decide) h6.1 h6.2;exact ⟨r1,zPU rfl r2 hm⟩
theorem zQd {w:World} {base g n c:Nat} {L:List NB} {b:NB} (h:w.ownsRow base 42 6 (.slice (some ⟨g,0,none⟩) n c) n (L.flatMap zAL++zAL b)) (k:Nat) (u:Value) (hk:k<6) (hu:(zAL b)[k]?=some u):w.cell? ⟨g,L.length*6+k,none⟩=some u:=by
 have hlen:=zGB zAL 6 (λ_=>rfl) L;have:=h.cells (g:=g) rfl (L.length*6+k) u (by rw [List.getElem?_append_right (by omega),hlen,Nat.add_sub_cancel_left];exact hu);rw [zBB] at this
 simpa using this
theorem zOa (B base gv gl gt:Nat) (A:Option Addr) (c:Nat) (v:List Nd) (hl:v.length<=512) (hsm:∀n∈v,zAW n) (hob:∀n∈v,ndOk n=true) (d:Nat) (hIH:zRH B base gv gl gt A c v d) (o:ByteArray) (L:List NB) (V:Value) (r:List Nd) (w:World) (hT:∀W,Below B w W->TbH W) (hp:L.length<v.length) (hr:zAE (d+1) (v.drop L.length)=some r) (h:RwSt (zCp gv gl gt) 38 B base gv gl gt A c v L V w) (hk:(v[L.length]'hp).kind=1) :
 Calls prog 48 #[.string o,.pointer (some ⟨gv,0,none⟩),.pointer (some ⟨gl,0,none⟩),.pointer (some ⟨gt,0,none⟩)] w (zEH (zCp gv gl gt) 38 B base gv gl gt A c v L V (zAK zCQ zA3 (d+1) o.data.toList (v.drop L.length)) w):=by
 have hs:=hsm _ (List.getElem_mem hp);have hok:=hob _ (List.getElem_mem hp);obtain ⟨i0,hi,hz0,hz1,hz2⟩:=info_parts zFB;have HI:=hI hi;have HZ0:=hI hz0;have HZ1:=hI hz1;have HZ2:=hI hz2;obtain ⟨Va,Vc,rfl⟩:=zAD h.own;obtain ⟨b0,off,x,y,t,A1,c1,hA,hbB,hin,q0,q1,q2,q3,q4,q5⟩:=zCL h.rd hp;have hBw:B<=w.heap.size:=by have:=h.ord;have:=h.sz;omega
 have hdr:=List.drop_eq_getElem_cons hp;obtain ⟨nd,hnd⟩:∃nd,v[L.length]'hp=nd:=⟨_,rfl⟩;rw [hnd] at hin q0 q3 q5 hdr hk hs hok;rw [hdr];obtain ⟨n,hn⟩:∃n,v.length=n:=⟨_,rfl⟩;have HLN:=hI hn;obtain ⟨n1,hn1⟩:∃n1,nd.attrs.length=n1:=⟨_,rfl⟩;have bp:(0:Int)<=(L.length:Int)/\(L.length:Int)<(n:Int):=by omega
 have bn:(n:Int)<=512:=by omega
 have HPN:Hid (L.length<=512):=hI (by omega);have kv:=cell_of_one h.hv;have kl:=cell_of_one h.hl;have HST:=hI h;rw [hn] at kv;rw [hn1] at q3;have HIN:=hI hin;rw [hdr] at hr;obtain ⟨_,hm0,bb,hkids⟩:=zBm hr;rw [Nat.add_sub_cancel] at hkids;obtain ⟨hfn,htx,_,hao⟩:=zCj hok hk;obtain ⟨hfa,hnd2,hla⟩:=zCF.1 hao;rw [zFa (by omega)];obtain ⟨m0,hm0'⟩:∃m0:Nat,nd.many=(m0:Int):=⟨nd.many.toNat,by omega⟩;rw [hm0'] at q5;rw [hm0',Int.toNat_natCast] at hkids;rw [hm0',Int.toNat_natCast];rw [hk,show ((1:Nat):Int)=1 from rfl] at q0
 have bm0:(m0:Int)<=512:=by
  have:=zDU hkids;rw [List.length_drop] at this
  omega
 obtain ⟨W0,hW0⟩:∃W0,w.alloc (.cells #[.int .u8 1,.string x,.string y,.slice A1 n1 c1,.string t,.int .i64 (m0:Int)] 42)=W0:=⟨_,rfl⟩;have HB0:Hid (Below w.heap.size w W0):=hI (by rw [←hW0];exact stpA (Below.refl _ _) _);have HX0:Hid (W0.heap[w.heap.size]?=some (.cells #[.int .u8 1,.string x,.string y,.slice A1 n1 c1,.string t,.int .i64 (m0:Int)] 42 (0,0))):=hI (by rw [←hW0];exact heap_alloc_new w _);have HS0:=hI (h.below HB0.out);have k00:=zAA W0 _ 0 _ _ _ HX0.out;have hndw:NdAt nd x y t A1 c1 w:=hin.keep (λb hb=>Nat.lt_of_lt_of_le hb hBw) λ_ _ _=>rfl
 have HTB:=hI hT
 have HBA:Hid (∀W,Below w.heap.size w W->Calls prog 49 #[.agg #[.int .u8 1,.string x,.string y,.slice A1 n1 c1,.string t,.int .i64 (m0:Int)],.string o] W λe w'=>∃(A':Option Addr) (c':Nat) (LL:List AB),e=.returned (.agg #[.int .u8 1,.string ⟨#[]⟩,.string y,.slice A' LL.length c',.string t,.int .i64 (m0:Int)])/\LL.map zAg=zBN o.data.toList nd ∧
  w'.ownsRow (W.heap.size+2) 44 3 (.slice A' LL.length c') LL.length (LL.flatMap zAi)/\Below W.heap.size W w'):=hI λW hW=>by
  have hb:=zRN nd x y t o A1 c1 W (hndw.on hW) hs hk (by omega) (HTB.out W (hW.mono hBw));unfold NdV zLu at hb;rw [hk,hn1,hm0'] at hb;exact hb
 have HTX:Hid (t.data.toList=[]):=hI (by rw [hin.text,htx]);have HYN:=hI hin.name;have HXN:=hI hin.space;have HMN:Hid (0<=nd.many/\nd.many<=9223372036854775807):=hI ⟨hm0,hin.hi⟩;have HM0:=hI hm0';have HBW:=hI hBw;have HIH:=hI hIH;have HK:=hI hkids;obtain ⟨KK,hKK⟩:∃KK,zAb (zAK zCQ zA3 d (zA3 o.data.toList nd)) m0 (v.drop (L.length+1))=KK:=⟨_,rfl⟩;rw [hKK];have HKK:=hI hKK;obtain ⟨oq,hoq⟩:∃oq,decide ((zBN o.data.toList nd).length<=16)=oq:=⟨_,rfl⟩;obtain ⟨WW,hWW⟩:∃WW,((((zCQ o.data.toList nd).1::KK.1.1,(zCQ o.data.toList nd).2&&KK.1.2),KK.2):(List Nd × Bool) × List Nd)=WW:=⟨_,rfl⟩;have HWL:Hid (WW.1.1=zCy o.data.toList nd::KK.1.1):=hI (by rw [←hWW];rfl);have HWQ:Hid (WW.1.2=(oq&&KK.1.2)):=hI (by rw [←hWW,←hoq];rfl);rw [hWW];have HOQ:=hI hoq;subst hA;clear hi hz0 hz1 hz2 h hin hdr hk hok hnd hbB hBw hn1 hn hs hr hm0 hkids hfn htx hao hfa hnd2 hla hm0' hoq hKK hWW hIH hsm hob hl hT hndw;clear hp
 go_enter func48,ntmps48
 go_wp2_with (first
  | (refine wpList_store_row rfl _ _ _ rfl w.heap.size #[.int .u8 1,.string x,.string y,.slice A1 n1 c1,.string t,.int .i64 (m0:Int)] rfl rfl 42 #[.int .u8 0,.string ⟨#[]⟩,.string ⟨#[]⟩,.slice none 0 0,.string ⟨#[]⟩,.int .i64 0] (heap_alloc_new _ _) zBr rfl (by simp [Value.oneCell']) ?_;rw [World.setRow_alloc_new,hW0])
  | fail)
 clear k00 q0 q1 q2 q3 q4 q5 kv kl;refine wp_region_noPanic ?_;refine zAN (λW=>W.cell? ⟨gl,0,none⟩=some (.slice Va L.length Vc)/\W.cell? ⟨w.heap.size,0,none⟩=some (.int .u8 1)/\W.cell? ⟨w.heap.size,1,none⟩=some (.string x)/\W.cell? ⟨w.heap.size,2,none⟩=some (.string y)/\W.cell? ⟨w.heap.size,3,none⟩=some (.slice A1 n1 c1)/\W.cell? ⟨w.heap.size,4,none⟩=some (.string t)/\W.cell? ⟨w.heap.size,5,none⟩=some (.int .i64 (m0:Int))) 6 (by kernel_rfl) ?_;have hS:W0.drew.cell? ⟨gl,0,none⟩=some (.slice Va L.length Vc)/\W0.drew.cell? ⟨w.heap.size,0,none⟩=some (.int .u8 1)/\W0.drew.cell? ⟨w.heap.size,1,none⟩=some (.string x)/\W0.drew.cell? ⟨w.heap.size,2,none⟩=some (.string y)/\W0.drew.cell? ⟨w.heap.size,3,none⟩=some (.slice A1 n1 c1)/\W0.drew.cell? ⟨w.heap.size,4,none⟩=some (.string t)/\W0.drew.cell? ⟨w.heap.size,5,none⟩=some (.int .i64 (m0:Int)):=⟨zAA W0 _ 0 _ _ _ HS0.out.hl,zAA W0 _ 0 _ _ _ HX0.out,zAA W0 _ 1 _ _ _ HX0.out,zAA W0 _ 2 _ _ _ HX0.out,zAA W0 _ 3 _ _ _ HX0.out,zAA W0 _ 4 _ _ _ HX0.out,zAA W0 _ 5 _ _ _ HX0.out⟩;refine tkZ (i:=0) (v:=.slice Va L.length Vc) rfl (Or.inl ⟨by rfl,?_⟩) hS ?_
 · intro w' hSw;(try dsimp only at hSw);go_simp
 try simp only [Act.put,sTA,sTB,sTC]
 refine tkZ (i:=1) (v:=.agg #[.int .u8 1,.string x,.string y,.slice A1 n1 c1,.string t,.int .i64 (m0:Int)]) rfl (Or.inl ⟨by rfl,?_⟩) hS ?_
 · intro w' hSw;(try dsimp only at hSw);go_simp
 try simp only [Act.put,sTA,sTB,sTC]
 refine tkZ (i:=2) (v:=.string o) rfl (Or.inl ⟨by rfl,?_⟩) hS ?_
 · intro w' hSw;(try dsimp only at hSw);go_simp
 try simp only [Act.put,sTA,sTB,sTC]
 refine zAS (i:=3) (by kernel_rfl) rfl (λK hK=>?_)
 go_simp
 go_at_call 49;(with_reducible refine (HBA.out W0.drew HB0.out.drew).mono ?_);rintro e5 w5 ⟨A5,c5,LL,rfl,hLL,ho5,hb5⟩;have HB5:Hid (Below W0.drew.heap.size W0.drew w5):=hI hb5;have HLL:=hI hLL;have HO5:=hI ho5;clear hb5 hLL ho5
 have HS5:Hid (RwSt (zCp gv gl gt) 38 B base gv gl gt (some ⟨b0,off,none⟩) c v L (.slice Va L.length Vc) w5):=hI (HS0.out.below (stp (Below.refl _ _).drew HB5.out));have HX5:Hid (w5.heap[w.heap.size]?=some (.cells #[.int .u8 1,.string x,.string y,.slice A1 n1 c1,.string t,.int .i64 (m0:Int)] 42 (0,0))):=hI (zAB HX0.out (stp (Below.refl _ _).drew HB5.out));have hS5:w5.cell? ⟨gl,0,none⟩=some (.slice Va L.length Vc)/\w5.cell? ⟨w.heap.size,0,none⟩=some (.int .u8 1)/\w5.cell? ⟨w.heap.size,1,none⟩=some (.string x)/\w5.cell? ⟨w.heap.size,2,none⟩=some (.string y)/\w5.cell? ⟨w.heap.size,3,none⟩=some (.slice A1 n1 c1)/\w5.cell? ⟨w.heap.size,4,none⟩=some (.string t)/\w5.cell? ⟨w.heap.size,5,none⟩=some (.int .i64 (m0:Int)):=⟨zAA w5 _ 0 _ _ _ HS5.out.hl,zAA w5 _ 0 _ _ _ HX5.out,zAA w5 _ 1 _ _ _ HX5.out,zAA w5 _ 2 _ _ _ HX5.out,zAA w5 _ 3 _ _ _ HX5.out,zAA w5 _ 4 _ _ _ HX5.out,zAA w5 _ 5 _ _ _ HX5.out⟩;have HBG:=hI (zQf (base:=base) (V:=.slice Va L.length Vc) (w2:=W0) (o:=o.data.toList) (nd:=nd) HO5.out HS0.out.sz (λk hk=>(HS0.out.own.lt k hk).2) HYN.out HLL.out HTX.out HMN.out HM0.out);have HCE:=hI HBG.out.2
 go_wp2_with fail
 refine hK.out _ _ (λ_=>hS5) (λ_=>?_);clear hK K hS
 try simp only [Act.put,sTA,sTB,sTC]
 refine zAS (i:=4) (by kernel_rfl) rfl (λK hK=>?_)
 go_simp
 have HS6:=hI (HS5.out.below (stpA (Below.refl w5.heap.size w5) (.cells #[.int .u8 1,.string ⟨#[]⟩,.string y,.slice A5 LL.length c5,.string t,.int .i64 (m0:Int)] 42)));have HX6:=hI (zAB HX5.out (stpA (Below.refl w5.heap.size w5) (.cells #[.int .u8 1,.string ⟨#[]⟩,.string y,.slice A5 LL.length c5,.string t,.int .i64 (m0:Int)] 42)));have hS6:(w5.alloc (.cells #[.int .u8 1,.string ⟨#[]⟩,.string y,.slice A5 LL.length c5,.string t,.int .i64 (m0:Int)] 42)).cell? ⟨gl,0,none⟩=some (.slice Va L.length Vc)/\(w5.alloc (.cells #[.int .u8 1,.string ⟨#[]⟩,.string y,.slice A5 LL.length c5,.string t,.int .i64 (m0:Int)] 42)).cell? ⟨w.heap.size,0,none⟩=some (.int .u8 1)/\(w5.alloc (.cells #[.int .u8 1,.string ⟨#[]⟩,.string y,.slice A5 LL.length c5,.string t,.int .i64 (m0:Int)] 42)).cell? ⟨w.heap.size,1,none⟩=some (.string x)/\(w5.alloc (.cells #[.int .u8 1,.string ⟨#[]⟩,.string y,.slice A5 LL.length c5,.string t,.int .i64 (m0:Int)] 42)).cell? ⟨w.heap.size,2,none⟩=some (.string y)/\(w5.alloc (.cells #[.int .u8 1,.string ⟨#[]⟩,.string y,.slice A5 LL.length c5,.string t,.int .i64 (m0:Int)] 42)).cell? ⟨w.heap.size,3,none⟩=some (.slice A1 n1 c1)/\(w5.alloc (.cells #[.int .u8 1,.string ⟨#[]⟩,.string y,.slice A5 LL.length c5,.string t,.int .i64 (m0:Int)] 42)).cell? ⟨w.heap.size,4,none⟩=some (.string t)/\(w5.alloc (.cells #[.int .u8 1,.string ⟨#[]⟩,.string y,.slice A5 LL.length c5,.string t,.int .i64 (m0:Int)] 42)).cell? ⟨w.heap.size,5,none⟩=some (.int .i64 (m0:Int)):=⟨zAA (w5.alloc (.cells #[.int .u8 1,.string ⟨#[]⟩,.string y,.slice A5 LL.length c5,.string t,.int .i64 (m0:Int)] 42)) _ 0 _ _ _ HS6.out.hl,zAA (w5.alloc (.cells #[.int .u8 1,.string ⟨#[]⟩,.string y,.slice A5 LL.length c5,.string t,.int .i64 (m0:Int)] 42)) _ 0 _ _ _ HX6.out,zAA (w5.alloc (.cells #[.int .u8 1,.string ⟨#[]⟩,.string y,.slice A5 LL.length c5,.string t,.int .i64 (m0:Int)] 42)) _ 1 _ _ _ HX6.out,zAA (w5.alloc (.cells #[.int .u8 1,.string ⟨#[]⟩,.string y,.slice A5 LL.length c5,.string t,.int .i64 (m0:Int)] 42)) _ 2 _ _ _ HX6.out,zAA (w5.alloc (.cells #[.int .u8 1,.string ⟨#[]⟩,.string y,.slice A5 LL.length c5,.string t,.int .i64 (m0:Int)] 42)) _ 3 _ _ _ HX6.out,zAA (w5.alloc (.cells #[.int .u8 1,.string ⟨#[]⟩,.string y,.slice A5 LL.length c5,.string t,.int .i64 (m0:Int)] 42)) _ 4 _ _ _ HX6.out,zAA (w5.alloc (.cells #[.int .u8 1,.string ⟨#[]⟩,.string y,.slice A5 LL.length c5,.string t,.int .i64 (m0:Int)] 42)) _ 5 _ _ _ HX6.out⟩;refine hK.out _ _ (λ_=>hS6) (λ_=>?_);clear hK K hS5
 try simp only [Act.put,sTA,sTB,sTC]
 refine zAS (i:=5) (by kernel_rfl) rfl (λK hK=>?_);have HSZ:Hid (base<=w5.heap.size):=hI HS5.out.sz;refine step_append_lies _ rfl (.tmp 19) (.tmp 23) 22 rfl base 42 i0 (.agg #[.int .u8 0,.string ⟨#[]⟩,.string ⟨#[]⟩,.slice none 0 0,.string ⟨#[]⟩,.int .i64 0]) 6 88 underlying22 HI.out HZ0.out HZ1.out HZ2.out rfl (by decide) _ L.length _ rfl (zAF HS5.out.own (stpA (Below.refl _ _) _) (Nat.le_refl _)) ⟨w5.heap.size,0,none⟩ 1 1 [.int .u8 1,.string ⟨#[]⟩,.string y,.slice A5 LL.length c5,.string t,.int .i64 (m0:Int)] rfl rfl (zAp w5 [.int .u8 1,.string ⟨#[]⟩,.string y,.slice A5 LL.length c5,.string t,.int .i64 (m0:Int)] 42 _ rfl) (by simp [Value.oneCell']) (by decide) (by have:=HPN.out;unfold maxLen;omega) (by have:=HPN.out;omega) (by have:=HSZ.out;rw [World.size_alloc];omega) (w5.heap.size+1) (by rw [World.size_alloc]) ?_;intro g8 c8 w8 hown8 hgr8 hor hlt8;rw [←HCE.out] at hown8;have hlast:=zQd hown8 3 (.slice A5 LL.length c5) (by decide) (by rw [HCE.out];rfl);have hpush:=HS5.out.push (b:=(NB.mk (zCy o.data.toList nd) ⟨#[]⟩ y t A5 c5)) HBG.out.1 hown8 hgr8 hor;have HP8:=hI hpush.1;have HF8:=hI hpush.2
 have st8:∀(q:Nat) (ob:Obj),w5.heap[q]?=some ob->some q≠(Value.slice Va L.length Vc).ownBlock->w8.heap[q]?=some ob:=λq ob ho hne=>by
  have h1:=zAB ho (stpA (Below.refl w5.heap.size w5) (.cells #[.int .u8 1,.string ⟨#[]⟩,.string y,.slice A5 LL.length c5,.string t,.int .i64 (m0:Int)] 42));exact (hgr8.block _ (Array.getElem?_eq_some_iff.1 h1).1 hne).trans h1
 have hgl:=st8 gl _ HS5.out.hl (λe=>by have:=(HS5.out.own.lt _ e.symm).1;have:=HS5.out.ord;omega);have hbx:=st8 w.heap.size _ HX5.out (λe=>by have:=(HST.out.own.lt _ e.symm).2;omega);have k8:w8.cell? ⟨gl,0,none⟩=some (.slice Va L.length Vc)/\w8.cell? ⟨w.heap.size,0,none⟩=some (.int .u8 1)/\w8.cell? ⟨w.heap.size,1,none⟩=some (.string x)/\w8.cell? ⟨w.heap.size,2,none⟩=some (.string y)/\w8.cell? ⟨w.heap.size,3,none⟩=some (.slice A1 n1 c1)/\w8.cell? ⟨w.heap.size,4,none⟩=some (.string t)/\w8.cell? ⟨w.heap.size,5,none⟩=some (.int .i64 (m0:Int)):=⟨zAA w8 _ 0 _ _ _ hgl,zAA w8 _ 0 _ _ _ hbx,zAA w8 _ 1 _ _ _ hbx,zAA w8 _ 2 _ _ _ hbx,zAA w8 _ 3 _ _ _ hbx,zAA w8 _ 4 _ _ _ hbx,zAA w8 _ 5 _ _ _ hbx⟩;have f8:w8.frozen? ⟨gl,0,none⟩=false:=zAZ w8 _ 0 _ _ hgl;have k81:=k8.1;have hglW:gl<base:=by have:=HST.out.ord;omega
 have HG8:Hid (base<=g8/\g8≠w.heap.size):=hI ⟨(hown8.lt g8 rfl).1,λe=>by
  rcases hor with h | h
  · have:=(HST.out.own.lt _ h).2;omega
  · have h1:W0.heap.size<=w5.heap.size:=HB5.out.size
    have h2:w.heap.size+1=W0.heap.size:=by rw [←hW0,World.size_alloc]
    omega⟩
 have HX8:Hid ((w8.setCell ⟨gl,0,none⟩ (.slice (some ⟨g8,0,none⟩) (L.length+1) c8)).heap[w.heap.size]?=some (.cells #[.int .u8 1,.string x,.string y,.slice A1 n1 c1,.string t,.int .i64 (m0:Int)] 42 (0,0))):=hI ((zAH w8 gl 0 w.heap.size _ (by have:=HST.out.sz;omega)).trans hbx);have HLA:Hid ((w8.setCell ⟨gl,0,none⟩ (.slice (some ⟨g8,0,none⟩) (L.length+1) c8)).cell? ⟨g8,L.length*6+3,none⟩=some (.slice A5 LL.length c5)):=hI ((zCc (zAH w8 gl 0 g8 _ (by have:=(hown8.lt g8 rfl).1;omega))).trans hlast);clear hown8 hgr8 hor hgl st8 hpush hlast;refine hK.out _ _ (λ_=>k8) (λ_=>?_);clear hK K
 try simp only [Act.put,sTA,sTB,sTC]
 refine zAS (i:=6) (by kernel_rfl) rfl (λK hK=>?_)
 go_simp
 refine hK.out _ _ (λh=>absurd rfl h) (λ_=>?_);clear hK K
 try simp only [Act.put,sTA,sTB,sTC]
 refine zCU (by kernel_rfl) ?_ _;refine NoPanic.normal ?_;have HFW:Hid (FrR B gl (.slice Va L.length Vc) w (.slice (some ⟨g8,0,none⟩) (L.length+1) c8) (w8.setCell ⟨gl,0,none⟩ (.slice (some ⟨g8,0,none⟩) (L.length+1) c8))):=hI ((FrR.of_below (HB0.out.trans ((stp (Below.refl _ _).drew HB5.out).mono HB0.out.size)) HBW.out).trans HF8.out);obtain ⟨WN,hWN⟩:∃WN,(w8.setCell ⟨gl,0,none⟩ (.slice (some ⟨g8,0,none⟩) (L.length+1) c8))=WN:=⟨_,rfl⟩;rw [hWN] at HP8 HF8 HX8 HLA HFW;rw [hWN];have kl8:=cell_of_one HP8.out.hl;have kla:=HLA.out;have kb5:=zAA WN _ 5 _ _ _ HX8.out;have bL:(L.length:Int)<=512:=by have:=HPN.out;omega
 have hls:(((L++[(NB.mk (zCy o.data.toList nd) ⟨#[]⟩ y t A5 c5)]).length:Nat):Int)=(L.length:Int)+1:=by rw [List.length_append];rfl
 have HLEN:Hid (LL.length=(zBN o.data.toList nd).length):=hI (by rw [←HLL.out,List.length_map]);have HBS:Hid (w.heap.size<WN.heap.size):=hI (zAY HX8.out);clear k8 f8 k81 hbx hWN hS6
 cases oq with
 | false =>
  have h16:(16:Int)<(LL.length:Int):=by have:=of_decide_eq_false HOQ.out;have:=HLEN.out;omega
  go_wp2_with fail
  go_ret
  exact ⟨[(NB.mk (zCy o.data.toList nd) ⟨#[]⟩ y t A5 c5)],_,by rw [HWQ.out] <;> rfl,HFW.out,HP8.out,λhh=>by rw [HWQ.out] at hh;cases hh⟩
 | true =>
  have h16:¬(16:Int)<(LL.length:Int):=by have:=of_decide_eq_true HOQ.out;have:=HLEN.out;omega
  go_wp2_with fail
  go_loopg [36] m0 (λgg i wr=>∃(j:Nat) (b':Bool) (M:List NB) (V':Value),j+gg=m0/\i=.int .i64 j/\zAG (zAE d) j false (v.drop (L.length+1))=some (b',v.drop (L++[(NB.mk (zCy o.data.toList nd) ⟨#[]⟩ y t A5 c5)]++M).length)/\RwSt (zCp gv gl gt) 38 B base gv gl gt (some ⟨b0,off,none⟩) c v (L++[(NB.mk (zCy o.data.toList nd) ⟨#[]⟩ y t A5 c5)]++M) V' wr/\M.map NB.n=(zAb (zAK zCQ zA3 d (zA3 o.data.toList nd)) j (v.drop (L.length+1))).1.1/\(zAb (zAK zCQ zA3 d (zA3 o.data.toList nd)) j (v.drop (L.length+1))).1.2=true/\FrR B gl (.slice (some ⟨g8,0,none⟩) (L.length+1) c8) WN V' wr)
  case atStart=>exact ⟨0,false,[],_,by omega,rfl,by rw [zAG,List.append_nil,List.length_append];rfl,by rw [List.append_nil];exact HP8.out,by simp [zAb],by simp [zAb],FrR.refl _ _ _ _⟩
  case round =>
   obtain ⟨j,b',M,V',hjg,rfl,hkd,hst,hM,hq,hfr⟩:=hrel;obtain ⟨L2,hL2⟩:∃L2,L++[(NB.mk (zCy o.data.toList nd) ⟨#[]⟩ y t A5 c5)]++M=L2:=⟨_,rfl⟩;rw [hL2] at hkd hst;have HL2:=hI hL2;have HSTj:=hI hst;have HFR:=hI hfr;have HMj:=hI hM;have HQj:=hI hq;have hrest:=(zEB (f:=zCQ) (dn:=zA3) (λl r e h=>zBC d l r e h) (zA3 o.data.toList nd) j false _ b' _ hkd).1
   by_cases hlt:j<m0
   · have hlt2:(j:Int)<(m0:Int):=by omega
     obtain ⟨hp2,r2,h1,h2,h3⟩:=zE0 HK.out hkd hlt;have hcall:=HIH.out x L2 V' r2 wr (λW hW=>HTB.out W (HFW.out.bel.trans (hfr.bel.trans hW))) hp2 h1 hst;have hxs:x.data.toList=zA3 o.data.toList nd:=HXN.out;rw [hxs] at hcall;have hlen2:=(zBC (f:=zCQ) (dn:=zA3) d _ _ (zA3 o.data.toList nd) h1).2;have hsn:=zDy (g:=zAK zCQ zA3 d (zA3 o.data.toList nd)) j (v.drop (L.length+1));rw [hrest] at hsn;obtain ⟨WI,hWI⟩:∃WI,zAK zCQ zA3 d (zA3 o.data.toList nd) (v.drop L2.length)=WI:=⟨_,rfl⟩;rw [hWI] at hcall hlen2 hsn;obtain ⟨qi,hqi⟩:∃qi,WI.1.2=qi:=⟨_,rfl⟩
     have HSN:Hid ((zAb (zAK zCQ zA3 d (zA3 o.data.toList nd)) (j+1) (v.drop (L.length+1))).1.1=M.map NB.n++WI.1.1/\(zAb (zAK zCQ zA3 d (zA3 o.data.toList nd)) (j+1) (v.drop (L.length+1))).1.2=qi):=hI (by
      rw [hsn,hM,←hqi];refine ⟨rfl,?_⟩;show (_&&_)=_;rw [hq,Bool.true_and])
     have HC:Hid (Calls prog 48 #[.string x,.pointer (some ⟨gv,0,none⟩),.pointer (some ⟨gl,0,none⟩),.pointer (some ⟨gt,0,none⟩)] wr λe w'=>∃(M2:List NB) (V2:Value),e=.returned (.bool qi)/\FrR B gl V' wr V2 w'∧RwSt (zCp gv gl gt) 38 B base gv gl gt (some ⟨b0,off,none⟩) c v (L2++M2) V2 w'∧(WI.1.2=true->M2.map NB.n=WI.1.1)):=hI (by
      unfold zEH at hcall;refine hcall.mono λe w' hh=>?_
      obtain ⟨M2,V2,e1,e2,e3,e4⟩:=hh;exact ⟨M2,V2,by rw [e1,hqi],e2,e3,e4⟩)
     have HQI:=hI hqi;have HXR:Hid (wr.heap[w.heap.size]?=some (.cells #[.int .u8 1,.string x,.string y,.slice A1 n1 c1,.string t,.int .i64 (m0:Int)] 42 (0,0))):=hI ((hfr.blk w.heap.size HBS.out (by have:=HST.out.sz;omega) (λe=>HG8.out.2 (by simpa [Value.ownBlock] using e.symm))).trans HX8.out);have kx1:=zAA wr _ 1 _ _ _ HXR.out;have kt:=cell_of_one hst.ht;unfold zCp at kt;have H2:Hid (∃b2,zAG (zAE d) (j+1) false (v.drop (L.length+1))=some (b2,v.drop (v.length - r2.length))):=hI ⟨_,h2⟩;have HLE:=hI hlen2;have HLT:=hI hlt;have HP2:=hI hp2;clear hcall hkd h1 h2 h3 hst hfr hM hq hrest hsn hqi hWI hlen2 hL2 hp2 hlt hxs kl8 kla kb5
     cases qi with
     | false =>
      have HNO:Hid (KK.1.2=false):=hI (by rw [←HKK.out];exact zKJ HSN.out.2 (by have:=HLT.out;omega))
      go_wp2_with (first
       | (go_at_call 48;(with_reducible refine (HC.out).mono ?_);rintro e6 w6 ⟨M2,V2,rfl,hf6,hs6,hm6⟩;have HF6:=hI hf6;have HS6:=hI hs6;clear hf6 hs6 hm6)
       | fail)
      go_ret
      exact ⟨[(NB.mk (zCy o.data.toList nd) ⟨#[]⟩ y t A5 c5)]++M++M2,V2,by rw [HWQ.out,HNO.out,Bool.and_false];rfl,HFW.out.trans (HFR.out.trans HF6.out),by rw [←List.append_assoc,←List.append_assoc,HL2.out];exact HS6.out,λhh=>by rw [HWQ.out,HNO.out,Bool.and_false] at hh;cases hh⟩
     | true =>
      go_wp2_with (first
       | (go_at_call 48;(with_reducible refine (HC.out).mono ?_);rintro e6 w6 ⟨M2,V2,rfl,hf6,hs6,hm6⟩;have HF6:=hI hf6;have HS6:=hI hs6;have HM6:=hI (hm6 HQI.out);clear hf6 hs6 hm6)
       | fail)
      go_roundg (gk - 1)
      case measure=>have:=HLT.out;omega
      case rel =>
       obtain ⟨b2,hk2⟩:=H2.out;refine ⟨j+1,b2,M++M2,V2,by have:=HLT.out;omega,by go_num,?_,by rw [←List.append_assoc,HL2.out];exact HS6.out,by rw [List.map_append,HM6.out,HSN.out.1],HSN.out.2,HFR.out.trans HF6.out⟩;rw [hk2,←List.append_assoc,HL2.out,List.length_append];have h9:=congrArg List.length HM6.out;rw [List.length_map] at h9;have h8:=HLE.out;rw [List.length_drop] at h8;have:=HP2.out;rw [show v.length - r2.length=L2.length+M2.length by omega]
   · obtain rfl:j=m0:=by omega
     have hjj:¬((j:Int)<(j:Int)):=by omega
     have HKQ:Hid (KK.1.2=true/\M.map NB.n=KK.1.1):=hI (by rw [←HKK.out];exact ⟨hq,hM⟩);clear hkd hst hfr hM hq hrest hL2 kl8 kla kb5
     go_wp2_with fail
     go_ret
     exact ⟨[(NB.mk (zCy o.data.toList nd) ⟨#[]⟩ y t A5 c5)]++M,V',by rw [HWQ.out,HKQ.out.1];rfl,HFW.out.trans HFR.out,by rw [←List.append_assoc,HL2.out];exact HSTj.out,λ_=>by rw [List.map_append,HKQ.out.2,HWL.out];rfl⟩
theorem zQx (B base gv gl gt:Nat) (A:Option Addr) (c:Nat) (v:List Nd) (hl:v.length<=512) (hsm:∀n∈v,zAW n) (hob:∀n∈v,ndOk n=true):∀d,zRH B base gv gl gt A c v d:=by
 intro d
 induction d with
 | zero =>
  intro o L V r w hT hp hr h
  have hk:(v[L.length]'hp).kind=2:=by
   have h':=hr;rw [List.drop_eq_getElem_cons hp,zAE] at h'
   by_cases hn:ndOk (v[L.length]'hp)=true/\(v[L.length]'hp).kind=2
   · exact hn.2
   · rw [if_neg hn] at h';cases h'
  exact zJ6 B base gv gl gt A c v hl o 0 L V w hp h hk (hob _ (List.getElem_mem hp))
 | succ d ih =>
  intro o L V r w hT hp hr h;have hok:=hob _ (List.getElem_mem hp);rcases zBX hok with hk | hk
  · exact zOa B base gv gl gt A c v hl hsm hob d ih o L V r w hT hp hr h hk
  · exact zJ6 B base gv gl gt A c v hl o (d+1) L V w hp h hk hok
def spA (a:At):Bool:= !decide (a.space=[])
def spN (n:Nd):Bool:= !rawN n
theorem zRO (n:Nd):spN n=(!decide (n.space=[])||n.attrs.any spA):=by
 unfold spN rawN
 have h1:n.attrs.any spA= !(n.attrs.all λa=>a.space.isEmpty):=by
  rw [List.all_eq_not_any_not,Bool.not_not]
  congr 1
  funext a
  unfold spA
  cases a.space <;> rfl
 rw [h1,Bool.not_and]
 cases n.space <;> rfl
theorem hs1 (x y z:ByteArray) (w:World) (p:Bool) (hp:decide (x.data.toList=[])=p) :
 Calls prog 79 #[.agg #[.string x,.string y,.string z]] w λe w'=>e=.returned (.bool !p)/\Below w.heap.size w w':=by
 have HBO:Hid (∀o,Below w.heap.size w (w.alloc o)):=hI λo=>(Below.refl _ _).alloc (Nat.le_refl _) o
 have f1:=zD2 x p hp;clear hp
 cases p with
 | false =>
  go_enter func79,ntmps79
  go_wp2_with fail
  go_ret
  exact ⟨rfl,HBO.out _⟩
 | true =>
  go_enter func79,ntmps79
  go_wp2_with fail
  go_ret
  exact ⟨rfl,HBO.out _⟩
theorem ixSp (A:Option Addr) (n c:Nat) (l:List At) (w:World) (hr:RdB AtS w A l) (hn:l.length=n) (hm:n<=1000000) (q:Bool) (hq:l.any (spA)=q) :
 Calls prog 114 #[.slice A n c,.func (.func 79) #[] #[]] w λe w'=>Below w.heap.size w w'∧∃r:Int,e=.returned (.int .i64 r)/\decide (0<=r)=q:=by
 have HR:=hI hr;have HN:=hI hn;have HQ:=hI hq;have bn:(n:Int)<=1000000:=by omega
 clear hr hn hq
 go_enter func114,ntmps114
 go_wp2_with fail
 go_loopg [8] n (λgg i wr=>∃j:Nat,j+gg=n/\i=.int .i64 j/\(l.take j).any (spA)=false/\Below w.heap.size w wr)
 case atStart=>exact ⟨0,by omega,rfl,rfl,Below.refl _ _⟩
 case round =>
  obtain ⟨j,hjg,rfl,hany,hbw⟩:=hrel;have HBW:=hI hbw
  by_cases hlt:j<n
  · have hjl:j<l.length:=by rw [HN.out];exact hlt
    obtain ⟨b0,off,x2,y2,z2,hA,hbB,hx,hy,hz,c0,c1,c2⟩:=zDL HR.out hjl;obtain ⟨a,ha⟩:∃a,l[j]'hjl=a:=⟨_,rfl⟩;rw [ha] at hx hy hz;have q0:=(hbw.cell (p:=⟨b0,_,none⟩) hbB).trans c0;have q1:=(hbw.cell (p:=⟨b0,_,none⟩) hbB).trans c1;have q2:=(hbw.cell (p:=⟨b0,_,none⟩) hbB).trans c2;have htk:l.take (j+1)=l.take j++[a]:=by rw [List.take_succ_eq_append_getElem hjl,ha]
    have bj:(0:Int)<=(j:Int)/\(j:Int)<(n:Int):=by omega
    obtain ⟨kq,hkq⟩:∃kq,(spA) a=kq:=⟨_,rfl⟩;obtain ⟨p,hp⟩:∃p,decide (x2.data.toList=[])=p:=⟨_,rfl⟩
    have HC:Hid (Calls prog 79 #[.agg #[.string x2,.string y2,.string z2]] wr λe w'=>e=.returned (.bool kq)/\Below wr.heap.size wr w'):=hI (by
     have:=hs1 x2 y2 z2 wr p hp
     rwa [show (!p)=kq by rw [←hkq,←hp,hx];rfl] at this)
    clear hp;subst hA
    cases kq with
    | true =>
     obtain rfl:q=true:=by
      rw [←HQ.out,List.any_eq_true];exact ⟨a,by rw [←ha];exact List.getElem_mem hjl,hkq⟩
     clear hany hbw hx hy hz c0 c1 c2 htk ha hjl hbB hkq
     go_wp2_with (first
      | (go_at_call 79;(with_reducible refine (HC.out).mono ?_);rintro e2 w2 ⟨rfl,hb2⟩;have HB2:=hI (stp HBW.out hb2);clear hb2)
      | fail)
     go_ret
     exact ⟨HB2.out,_,rfl,decide_eq_true (by omega)⟩
    | false =>
     have HA2:Hid ((l.take (j+1)).any (spA)=false):=hI (by rw [htk,List.any_append,hany];simpa using hkq);clear hany hbw hx hy hz c0 c1 c2 htk ha hjl hbB hkq
     go_wp2_with (first
      | (go_at_call 79;(with_reducible refine (HC.out).mono ?_);rintro e2 w2 ⟨rfl,hb2⟩;have HB2:=hI (stp HBW.out hb2);clear hb2)
      | fail)
     go_roundg (gk - 1)
     case measure=>omega
     case rel=>exact ⟨j+1,by omega,by go_num,HA2.out,HB2.out⟩
  · obtain rfl:j=n:=by omega
    have hjj:¬((j:Int)<(j:Int)):=by omega
    rw [←HN.out,List.take_length] at hany;obtain rfl:q=false:=by rw [←HQ.out];exact hany
    clear hany hbw
    go_wp2_with fail
    go_ret
    exact ⟨HBW.out,_,rfl,by decide⟩
theorem zNu (A:Option Addr) (n c:Nat) (l:List At) (w:World) (hr:RdB AtS w A l) (hn:l.length=n) (hm:n<=1000000) (q:Bool) (hq:l.any spA=q) :
 Calls prog 78 #[.slice A n c,.func (.func 79) #[] #[]] w λe w'=>e=.returned (.bool q)/\Below w.heap.size w w':=by
 have HX:=hI (ixSp A n c l w hr hn hm q hq);clear hr hn hq
 go_enter func78,ntmps78
 go_wp2_with (first
  | (go_at_call 114;(with_reducible refine (HX.out).mono ?_);rintro e2 w2 ⟨hb2,r,rfl,hr2⟩;have HB2:=hI hb2;clear hb2)
  | fail)
 go_ret
 exact ⟨rfl,HB2.out⟩
theorem zLA (n:Nd) (x y z:ByteArray) (A:Option Addr) (c:Nat) (w:World) (h:NdAt n x y z A c w) (hs:zAW n) (q:Bool) (hq:spN n=q) :
 Calls prog 38 #[NdV n x y z A c] w λe w'=>e=.returned (.bool q)/\Below w.heap.size w w':=by
 have HBO:Hid (∀o,Below w.heap.size w (w.alloc o)):=hI λo=>(Below.refl _ _).alloc (Nat.le_refl _) o
 obtain ⟨p,hp⟩:∃p,decide (x.data.toList=[])=p:=⟨_,rfl⟩;obtain ⟨r,hr⟩:∃r,n.attrs.any spA=r:=⟨_,rfl⟩;have HQ:Hid (q=(!p||r)):=hI (by rw [←hq,zRO,←hp,←hr,h.space]);have HC:Hid (∀W,Below w.heap.size w W->Calls prog 78 #[.slice A n.attrs.length c,.func (.func 79) #[] #[]] W λe w'=>e=.returned (.bool r)/\Below W.heap.size W w'):=hI λW hW=>zNu A n.attrs.length c n.attrs W (h.rd.on hW) rfl hs.attrs r hr
 have f1:=zD2 x p hp;unfold NdV;clear h hs hq hp hr
 cases p with
 | false =>
  obtain rfl:q=true:=HQ.out
  go_enter func38,ntmps38
  go_wp2_with fail
  go_ret
  exact ⟨rfl,HBO.out _⟩
 | true =>
  obtain rfl:q=r:=HQ.out
  go_enter func38,ntmps38
  go_wp2_with (first
   | (go_at_call 78;(with_reducible refine (HC.out _ (HBO.out _)).mono ?_);rintro e1 w1 ⟨rfl,hb1⟩;have HB1:Hid (Below w.heap.size w w1):=hI (zA7 (HBO.out _) hb1);clear hb1)
   | fail)
  go_ret
  exact ⟨rfl,HB1.out⟩
theorem ixNd (A:Option Addr) (n c:Nat) (v:List Nd) (w:World) (hr:RdB NdS w A v) (hn:v.length=n) (hm:n<=1000000) (hsm:∀m∈v,zAW m) (q:Bool) (hq:v.any spN=q) :
 Calls prog 77 #[.slice A n c,.func (.func 38) #[] #[]] w λe w'=>Below w.heap.size w w'∧∃r:Int,e=.returned (.int .i64 r)/\decide (0<=r)=q:=by
 have HR:=hI hr;have HN:=hI hn;have HQ:=hI hq;have HSM:=hI hsm;have bn:(n:Int)<=1000000:=by omega
 clear hr hn hq hsm
 go_enter func77,ntmps77
 go_wp2_with fail
 go_loopg [8] n (λgg i wr=>∃j:Nat,j+gg=n/\i=.int .i64 j/\(v.take j).any spN=false/\Below w.heap.size w wr)
 case atStart=>exact ⟨0,by omega,rfl,rfl,Below.refl _ _⟩
 case round =>
  obtain ⟨j,hjg,rfl,hany,hbw⟩:=hrel;have HBW:=hI hbw
  by_cases hlt:j<n
  · have hjl:j<v.length:=by rw [HN.out];exact hlt
    obtain ⟨b0,off,x,y,z,A1,c1,hA,hbB,hin,c0w,c1w,c2w,c3w,c4w,c5w⟩:=zCL HR.out hjl;have hsm:=HSM.out _ (List.getElem_mem hjl);obtain ⟨t,ht⟩:∃t,v[j]'hjl=t:=⟨_,rfl⟩;rw [ht] at hin c0w c3w c5w hsm;have c0:=(hbw.cell (p:=⟨b0,_,none⟩) hbB).trans c0w;have c1':=(hbw.cell (p:=⟨b0,_,none⟩) hbB).trans c1w;have c2:=(hbw.cell (p:=⟨b0,_,none⟩) hbB).trans c2w;have c3:=(hbw.cell (p:=⟨b0,_,none⟩) hbB).trans c3w;have c4:=(hbw.cell (p:=⟨b0,_,none⟩) hbB).trans c4w;have c5:=(hbw.cell (p:=⟨b0,_,none⟩) hbB).trans c5w;have hnd:NdAt t x y z A1 c1 w:=hin;have htk:v.take (j+1)=v.take j++[t]:=by rw [List.take_succ_eq_append_getElem hjl,ht]
    have bj:(0:Int)<=(j:Int)/\(j:Int)<(n:Int):=by omega
    obtain ⟨kq,hkq⟩:∃kq,spN t=kq:=⟨_,rfl⟩;have HC:Hid (Calls prog 38 #[.agg #[.int .u8 (t.kind:Int),.string x,.string y,.slice A1 t.attrs.length c1,.string z,.int .i64 t.many]] wr λe w'=>e=.returned (.bool kq)/\Below wr.heap.size wr w'):=hI (zLA t x y z A1 c1 wr (hnd.on hbw) hsm kq hkq);subst hA
    cases kq with
    | true =>
     obtain rfl:q=true:=by
      rw [←HQ.out,List.any_eq_true];exact ⟨t,by rw [←ht];exact List.getElem_mem hjl,hkq⟩
     clear hany hbw hin hnd hsm c0w c1w c2w c3w c4w c5w htk ht hjl hbB hkq
     go_wp2_with (first
      | (go_at_call 38;(with_reducible refine (HC.out).mono ?_);rintro e2 w2 ⟨rfl,hb2⟩;have HB2:=hI (stp HBW.out hb2);clear hb2)
      | fail)
     go_ret
     exact ⟨HB2.out,_,rfl,decide_eq_true (by omega)⟩
    | false =>
     have HA2:Hid ((v.take (j+1)).any spN=false):=hI (by rw [htk,List.any_append,hany];simpa using hkq);clear hany hbw hin hnd hsm c0w c1w c2w c3w c4w c5w htk ht hjl hbB hkq
     go_wp2_with (first
      | (go_at_call 38;(with_reducible refine (HC.out).mono ?_);rintro e2 w2 ⟨rfl,hb2⟩;have HB2:=hI (stp HBW.out hb2);clear hb2)
      | fail)
     go_roundg (gk - 1)
     case measure=>omega
     case rel=>exact ⟨j+1,by omega,by go_num,HA2.out,HB2.out⟩
  · obtain rfl:j=n:=by omega
    have hjj:¬((j:Int)<(j:Int)):=by omega
    rw [←HN.out,List.take_length] at hany;obtain rfl:q=false:=by rw [←HQ.out];exact hany
    clear hany hbw
    go_wp2_with fail
    go_ret
    exact ⟨HBW.out,_,rfl,by decide⟩
theorem zOA (A:Option Addr) (n c:Nat) (v:List Nd) (w:World) (hr:RdB NdS w A v) (hn:v.length=n) (hm:n<=1000000) (hsm:∀m∈v,zAW m) (q:Bool) (hq:rawV v= !q) :
 Calls prog 37 #[.slice A n c,.func (.func 38) #[] #[]] w λe w'=>e=.returned (.bool q)/\Below w.heap.size w w':=by
 have hq2:v.any spN=q:=by
  have:v.any spN= !rawV v:=by
   unfold rawV;rw [List.all_eq_not_any_not,Bool.not_not]
   rfl
  rw [this,hq,Bool.not_not]
 have HX:=hI (ixNd A n c v w hr hn hm hsm q hq2);clear hr hn hq hq2 hsm
 go_enter func37,ntmps37
 go_wp2_with (first
  | (go_at_call 77;(with_reducible refine (HX.out).mono ?_);rintro e2 w2 ⟨hb2,r,rfl,hr2⟩;have HB2:=hI hb2;clear hb2)
  | fail)
 go_ret
 exact ⟨rfl,HB2.out⟩
def zBh (l:List Nd) (z:Int) (w:World) (e:Ending) (w':World):Prop:=∃A c,e=.returned (.tuple #[.slice A l.length c,.int .i64 z])/\zIE w.heap.size w l A c w'∧Below w.heap.size w w'
theorem zBh.no {l:List Nd} {z:Int} {w w':World} (hl:l=[]) (hb:Below w.heap.size w w'):zBh l z w (.returned (.tuple #[.slice none 0 0,.int .i64 z])) w':=by
 subst hl;exact ⟨none,0,rfl,zIE.none _ _ _,hb⟩
theorem zL4 {clo:Value} {tc:TypeId} {w w2:World} {A:Option Addr} {c:Nat} {v:List Nd} (hr:RdB NdS w A v) (hb:Below w.heap.size w w2) (hv:w2.heap[w.heap.size]?=some (.cells #[.slice A v.length c] 22 (0,0))) :
 RwSt clo tc w.heap.size (w2.heap.size+1+1) w.heap.size w2.heap.size (w2.heap.size+1) A c v [] (.slice none 0 0) ((w2.alloc (.cells #[.slice none 0 0] 22)).alloc (.cells #[clo] tc)):=by
 have h0:=heap_alloc_new w2 (.cells #[.slice none 0 0] 22);have h1:=heap_alloc_new (w2.alloc (.cells #[.slice none 0 0] 22)) (.cells #[clo] tc);rw [World.size_alloc] at h1;have hb3:Below w2.heap.size w2 ((w2.alloc (.cells #[.slice none 0 0] 22)).alloc (.cells #[clo] tc)):=stpA (stpA (Below.refl _ _) _) _;have hlt:=zAY hv;refine ⟨zAB hv hb3,zAB h0 (stpA (Below.refl _ _) _),h1,?_,World.ownsRow_nil _ _ _ _,(λb hb=>by cases hb),by omega,by simp⟩;exact hr.keep (λ_ hb=>hb) λb o hlt2=>(stp hb hb3).cell (p:=⟨b,o,none⟩) hlt2
def D0:List (List UInt8 × AB):=insD (insD [] [] ⟨⟨#[]⟩,⟨#[]⟩,⟨#[]⟩⟩) xml3 ⟨⟨#[]⟩,⟨#[]⟩,⟨zAr.toArray⟩⟩
theorem env0:EnvD D0 []:=λp=>by
 unfold D0;rw [zDa,zDa,zA0]
 by_cases h3:p=xml3
 · rw [if_pos h3,if_pos h3.symm]
 · rw [if_neg h3,if_neg (Ne.symm h3)]
   by_cases h0:p=[]
   · rw [if_pos h0.symm,decide_eq_true h0]
   · rw [if_neg (Ne.symm h0),decide_eq_false h0]
     rfl
structure zAy (k:Nat) (n:Nd):Prop where
 space:n.space.length<=k
 name:n.name.length<=k
 text:n.text.length<=k
 attrs:n.attrs.length<=400000
 each:∀a∈n.attrs,a.space.length<=k/\a.name.length<=k/\a.value.length<=k
theorem zAy.to {k:Nat} {n:Nd} (h:zAy k n) (hk:k<=1000000):zAW n :=
 ⟨by have:=h.space;omega,by have:=h.name;omega,by have:=h.text;omega,by have:=h.attrs;omega,λa ha=>by obtain ⟨h1,h2,h3⟩:=h.each a ha;exact ⟨by omega,by omega,by omega⟩⟩
theorem zFi {g:List Nd->(List Nd × Bool) × List Nd} {Q W:Nd->Prop} (hg:∀l,(∀n∈l,Q n)->(∀m∈(g l).1.1,W m)/\∀n∈(g l).2,Q n):∀(k:Nat) (l:List Nd),(∀n∈l,Q n)->(∀m∈(zAb g k l).1.1,W m)/\∀n∈(zAb g k l).2,Q n
 | 0,l,h=>by rw [zAb];exact ⟨(λm hm=>by cases hm),h⟩
 | k+1,l,h=>by
  obtain ⟨h1,h2⟩:=hg l h;obtain ⟨h3,h4⟩:=zFi hg k _ h2;rw [zAb];refine ⟨λm hm=>?_,h4⟩;rcases List.mem_append.1 hm with hm | hm
  · exact h1 m hm
  · exact h3 m hm
theorem zD3 {ε:Type} {f:ε->Nd->Nd × Bool} {dn:ε->Nd->ε} {P:ε->Prop} {Q W:Nd->Prop} (h1:∀e n,P e->Q n->W (f e n).1/\P (dn e n)) (h2:∀n,Q n->W n):∀(d:Nat) (e:ε) (l:List Nd),P e->(∀n∈l,Q n)->(∀m∈(zAK f dn d e l).1.1,W m)/\∀n∈(zAK f dn d e l).2,Q n
 | d,e,[],_,_=>by cases d <;> (rw [zAK];exact ⟨(λm hm=>by cases hm),(λm hm=>by cases hm)⟩)
 | 0,e,n::l,hP,hQ=>by
  rw [zAK];exact ⟨λm hm=>by rw [List.mem_singleton.1 hm];exact h2 n (hQ n List.mem_cons_self),λm hm=>hQ m (List.mem_cons_of_mem _ hm)⟩
 | d+1,e,n::l,hP,hQ=>by
  obtain ⟨h3,h4⟩:=h1 e n hP (hQ n List.mem_cons_self);rw [zAK]
  split
  · exact ⟨λm hm=>by rw [List.mem_singleton.1 hm];exact h2 n (hQ n List.mem_cons_self),λm hm=>hQ m (List.mem_cons_of_mem _ hm)⟩
  · obtain ⟨h5,h6⟩:=zFi (λl' hl'=>zD3 h1 h2 d (dn e n) l' h4 hl') n.many.toNat l (λm hm=>hQ m (List.mem_cons_of_mem _ hm))
    refine ⟨λm hm=>?_,h6⟩;rcases List.mem_cons.1 hm with rfl | hm
    · exact h3
    · exact h5 m hm
def zHh (k:Nat) (E:List (List At)):Prop:=∀l∈E,∀a∈l,a.value.length<=k
theorem zDK {k:Nat} (hk:36<=k):∀(E:List (List At)) (p:List UInt8),zHh k E->(zA0 E p).1.length<=k
 | [],p,_=>by
  rw [zA0]
  split
  · exact hk
  · exact Nat.zero_le _
 | l::E,p,h=>by
  rw [zA0]
  cases hd:zBa l p with
  | none=>exact zDK hk E p λl' hl'=>h l' (List.mem_cons_of_mem _ hl')
  | some v =>
   obtain ⟨a,ha,_,rfl⟩:=zEd hd;exact h l List.mem_cons_self a ha
theorem zHO {l a b:List UInt8} (h:cutC l=some (a,b)):a.length<=l.length/\b.length<=l.length:=by
 obtain ⟨e,_⟩:=zCH h;rw [e,List.length_append,List.length_cons]
 omega
theorem zIw (l:List UInt8):(Ns.zHQ l).2.length<=l.length:=by
 unfold Ns.zHQ
 cases h:cutC l with
 | none=>exact Nat.le_refl _
 | some x =>
  obtain ⟨a,b⟩:=x;exact (zHO h).2
theorem zL0 {k:Nat} (hk:36<=k) {E:List (List At)} (hE:zHh k E) {a:At} (h:a.name.length<=k/\a.value.length<=k):(atE E a).1.space.length<=k/\(atE E a).1.name.length<=k/\(atE E a).1.value.length<=k:=by
 unfold atE
 cases hc:cutC a.name with
 | none=>exact ⟨Nat.zero_le _,h.1,h.2⟩
 | some x =>
  obtain ⟨p,q⟩:=x;exact ⟨zDK hk E p hE,Nat.le_trans (zHO hc).2 h.1,h.2⟩
theorem zD0 {k:Nat} (hk:36<=k) {E:List (List At)} (hE:zHh k E):∀(l acc:List At),(∀a∈l,a.name.length<=k/\a.value.length<=k)->(∀a∈acc,a.space.length<=k/\a.name.length<=k/\a.value.length<=k) →
 (∀a∈(atsE E acc l).1,a.space.length<=k/\a.name.length<=k/\a.value.length<=k)/\(atsE E acc l).1.length<=acc.length+l.length
 | [],acc,_,h2=>⟨h2,Nat.le_refl _⟩
 | a::l,acc,h1,h2=>by
  have h1':∀b∈l,b.name.length<=k/\b.value.length<=k:=λb hb=>h1 b (List.mem_cons_of_mem _ hb)
  rw [atsE]
  cases hd:decl a.name with
  | some p =>
   obtain ⟨h3,h4⟩:=zD0 hk hE l acc h1' h2;exact ⟨h3,by rw [List.length_cons];show (atsE E acc l).1.length<=_;omega⟩
  | none =>
   obtain ⟨h3,h4⟩:=zD0 hk hE l (acc++[(atE E a).1]) h1' (λb hb=>by
    rcases List.mem_append.1 hb with hb | hb
    · exact h2 b hb
    · rw [List.mem_singleton.1 hb];exact zL0 hk hE (h1 a List.mem_cons_self))
   refine ⟨h3,?_⟩;rw [List.length_append,List.length_singleton] at h4;rw [List.length_cons];show (atsE E (acc++[(atE E a).1]) l).1.length<=_
   omega
theorem zH7 {k:Nat} (hk:36<=k) {v:List Nd} (h:∀n∈v,zAy k n):∀m∈(resW v).1.1,zAy k m :=
 (zD3 (P:=zHh k) (Q:=zAy k) (W:=zAy k) (λE n hE hn=>by
  have hE2:zHh k (n.attrs::E):=λl hl a ha=>by
   rcases List.mem_cons.1 hl with rfl | hl
   · exact (hn.each a ha).2.2
   · exact hE l hl a ha
  obtain ⟨h1,h2⟩:=zD0 hk hE2 n.attrs [] (λa ha=>(hn.each a ha).2) (λa ha=>by cases ha);refine ⟨⟨zDK hk _ _ hE2,Nat.le_trans (zIw _) hn.name,Nat.zero_le _,?_,h1⟩,hE2⟩;have:=hn.attrs;show (atsE (n.attrs::E) [] n.attrs).1.length<=_;rw [List.length_nil] at h2
  omega) (λn hn=>hn) 12 [] v (λl hl=>by cases hl) h).1
theorem zFN {k:Nat} (hk:36<=k) {v l:List Nd} {z:Int} (h:∀n∈v,zAy k n) (hq:zA5 v=(l,z)):∀m∈l,zAy k m:=by
 unfold zA5 at hq
 split at hq
 · split at hq
   · injection hq with hq _
     rw [←hq];exact zH7 hk h
   · injection hq with hq _
     rw [←hq];exact λm hm=>by cases hm
 · injection hq with hq _
   rw [←hq];exact λm hm=>by cases hm
theorem zKd (A:Option Addr) (n c:Nat) (v:List Nd) (w:World) (hr:RdB NdS w A v) (hn:v.length=n) (hmax:n<=9223372036854775807) (hsm:n<=512->∀m∈v,zAy 1000000 m) (l:List Nd) (z:Int) (hq:zA5 v=(l,z)) :
 Calls prog 13 #[.slice A n c] w (zBh l z w):=by
 have hmf:∀(fn:Fn) (first cap:Array Value) (w:World),(Instr.makeFunc fn first cap).run prog w=.ok (.func fn first cap) w:=λ_ _ _ _=>rfl
 have hmm:=@run_makeMap prog;have HB0:Hid (Below w.heap.size w (w.alloc (.cells #[.slice A n c] 22))):=hI (stpA (Below.refl _ _) _);have HBX:Hid (∀w1,Below (w.alloc (.cells #[.slice A n c] 22)).heap.size (w.alloc (.cells #[.slice A n c] 22)) w1->w1.heap[w.heap.size]?=some (.cells #[.slice A n c] 22 (0,0))):=hI λw1 hb=>zAB (heap_alloc_new w _) hb
 have hsm':n<=512->∀m∈v,zAW m:=λh m hm=>(hsm h m hm).to (Nat.le_refl _)
 cases hm:mayV v with
 | false =>
  have HC:Hid (∀W,Below w.heap.size w W->Calls prog 36 #[.slice A n c] W λe w'=>e=.returned (.int .i64 8)/\Below W.heap.size W w'):=hI λW hW=>zGm A n c v W (hr.on hW) hn hmax hsm' 8 (zG3 hm)
  have hlz:l=[]/\z=8:=by
   unfold zA5 at hq;rw [if_neg (by rw [hm];simp)] at hq;injection hq with h1 h2;exact ⟨h1.symm,h2.symm⟩
  obtain ⟨rfl,rfl⟩:=hlz;clear hr hn hmax hsm hsm' hm hq
  go_enter func13,ntmps13
  go_wp2_with (first
   | (go_at_call 36;(with_reducible refine (HC.out _ HB0.out).mono ?_);rintro e1 w1 ⟨rfl,hb1⟩;have HB1:=hI hb1;clear hb1)
   | fail)
  go_ret2
  exact zBh.no rfl (stp HB0.out HB1.out)
 | true =>
  have h5:=(zAs.1 hm).1;have hrest:=(zAs.1 hm).2.2;have hs:=hsm (by omega);have hs':=hsm' (by omega);have HC:Hid (∀W,Below w.heap.size w W->Calls prog 36 #[.slice A n c] W λe w'=>e=.returned (.int .i64 0)/\Below W.heap.size W w'):=hI λW hW=>zGm A n c v W (hr.on hW) hn hmax hsm' 0 (zFu hm)
  have hcon:∀q,rawV v= !q->∀W,Below w.heap.size w W->Calls prog 37 #[.slice A n c,.func (.func 38) #[] #[]] W λe w'=>e=.returned (.bool q)/\Below W.heap.size W w':=λq hq W hW=>zOA A n c v W (hr.on hW) hn (by omega) hs' q hq
  cases hraw:rawV v with
  | false =>
   have HR:=hI (hcon true (by rw [hraw];rfl))
   have hlz:l=[]/\z=8:=by
    unfold zA5 at hq;rw [if_neg (by rw [hraw];simp)] at hq;injection hq with h1 h2;exact ⟨h1.symm,h2.symm⟩
   obtain ⟨rfl,rfl⟩:=hlz;clear hr hn hmax hsm hsm' hm hq h5 hrest hs hs' hcon hraw
   go_enter func13,ntmps13
   go_wp2_with (first
    | (go_at_call 36;(with_reducible refine (HC.out _ HB0.out).mono ?_);rintro e1 w1 ⟨rfl,hb1⟩;have HB1:=hI hb1;have kv1:=cell_of_one (HBX.out w1 hb1);clear hb1)
    | (go_at_call 37;(with_reducible refine (HR.out _ (stp HB0.out HB1.out)).mono ?_);rintro e2 w2 ⟨rfl,hb2⟩;have HB2:=hI hb2;clear hb2)
    | fail)
   go_ret2
   exact zBh.no rfl (stp (stp HB0.out HB1.out) HB2.out)
  | true =>
   have HR:=hI (hcon false (by rw [hraw];rfl))
   have hp0:0<v.length:=by
    obtain ⟨_,⟨m,l,rfl,_⟩,_⟩:=zAs.1 hm
    simp
   obtain ⟨WW,hWW⟩:∃WW,resW v=WW:=⟨_,rfl⟩
   have hlz:(l,z)=if WW.1.2=true then (WW.1.1,0) else ([],110):=by
    rw [←hq];unfold zA5;rw [if_pos ⟨hm,hraw⟩,hWW]
   have hlen:WW.1.2=true->WW.1.1.length<=512:=λ_=>by
    have:=(zBC (f:=resF) (dn:=zBe) 12 v [] [] hrest).2;rw [show zAK resF zBe 12 [] v=resW v from rfl,hWW] at this
    simp at this
    omega
   have hsmall:∀m∈WW.1.1,zAW m:=λm hm=>by
    rw [←hWW] at hm;exact (zH7 (by decide) hs m hm).to (Nat.le_refl _)
   obtain ⟨qq,hqq⟩:∃qq,WW.1.2=qq:=⟨_,rfl⟩;have HMD:Hid (∀W:World,MapD (W.alloc (.map #[] 0)) W.heap.size []):=hI λW=>⟨#[],0,heap_alloc_new W _,rfl⟩
   have HCALL:Hid (∀(w2 w7:World),Below w.heap.size w w2->w2.heap[w.heap.size]?=some (.cells #[.slice A n c] 22 (0,0))->Below (w2.heap.size+1+1) ((w2.alloc (.cells #[.slice none 0 0] 22)).alloc (.cells #[zBj w.heap.size w2.heap.size (w2.heap.size+1)] 63)) w7->MapD w7 (w2.heap.size+1+1) D0 →
    Calls prog 39 #[.map (some (w2.heap.size+1+1)),.pointer (some ⟨w.heap.size,0,none⟩),.pointer (some ⟨w2.heap.size,0,none⟩),.pointer (some ⟨w2.heap.size+1,0,none⟩)] w7 λe w'=>∃(A':Option Addr) (k' c':Nat),e=.returned (.bool qq)/\Below w.heap.size w w'∧w'.heap[w2.heap.size]?=some (.cells #[.slice A' k' c'] 22 (0,0))/\(WW.1.2=true->RdB NdS w' A' WW.1.1/\WW.1.1.length=k')):=hI λw2 w7 hb hv hb7 hmd=>by
    have hst:=(zL4 (clo:=zBj w.heap.size w2.heap.size (w2.heap.size+1)) (tc:=63) (c:=c) hr hb (by rw [hn];exact hv)).below (w':=w7) (by rw [World.size_alloc,World.size_alloc];exact hb7);refine (zPz _ _ _ _ _ A c v h5 hs' hraw (zF5 hm) 12 (w2.heap.size+1+1) D0 [] [] (.slice none 0 0) [] w7 hmd env0 hp0 hrest hst).mono ?_;rintro e w' ⟨M,V',rfl,hf,hs2,hM⟩;rw [List.nil_append] at hs2;rw [List.length_nil,List.drop_zero,show zAK resF zBe 12 [] v=resW v from rfl,hWW] at hM ⊢;obtain ⟨A1,c1,rfl,hrd⟩:=hs2.read;refine ⟨A1,M.length,c1,by rw [hqq],(hb.trans ((stpA (stpA (Below.refl w2.heap.size w2) _) _).mono hb.size)).trans ((hb7.mono (by have:=hb.size;omega)).trans hf.bel),hs2.hl,λhh=>?_⟩;rw [hM hh] at hrd;exact ⟨hrd,by rw [←hM hh,List.length_map]⟩
   have HLZ:=hI hlz;have HQQ:=hI hqq;have HSM:=hI hsmall;have HLEN:=hI hlen;clear hr hn hmax hsm hsm' hm hq h5 hrest hs hs' hcon hraw hp0 hWW hlz hlen hsmall hqq
   go_enter func13,ntmps13
   cases qq with
   | false =>
    have hlz:l=[]/\z=110:=by
     have:=HLZ.out;rw [HQQ.out] at this;injection this with h1 h2;exact ⟨h1,h2⟩
    obtain ⟨rfl,rfl⟩:=hlz
    go_wp2_with (first
     | (go_at_call 36;(with_reducible refine (HC.out _ HB0.out).mono ?_);rintro e1 w1 ⟨rfl,hb1⟩;have HB1:=hI hb1;have kv1:=cell_of_one (HBX.out w1 hb1);clear hb1)
     | (go_at_call 37;(with_reducible refine (HR.out _ (stp HB0.out HB1.out)).mono ?_);rintro e2 w2 ⟨rfl,hb2⟩;have HB2:=hI hb2;have HW4:Hid (((w2.alloc (.cells #[.slice none 0 0] 22)).alloc (.cells #[zBj w.heap.size w2.heap.size (w2.heap.size+1)] 63)).heap.size=w2.heap.size+1+1):=hI (by rw [World.size_alloc,World.size_alloc]);clear hb2)
     | (obtain ⟨w7,hr7,hm7,hz7,hk7,hb7⟩:=zDj HM6.out ⟨#[120,109,108]⟩ xml3 rfl ⟨⟨#[]⟩,⟨#[]⟩,⟨zAr.toArray⟩⟩;refine zCA (mv:=.map (some (w2.heap.size+1+1))) (kv:=.string ⟨#[120,109,108]⟩) (vv:=atV ⟨⟨#[]⟩,⟨#[]⟩,⟨zAr.toArray⟩⟩) rfl _ _ _ _ rfl rfl rfl rfl hr7 ?_;have HM7:Hid (MapD w7 (w2.heap.size+1+1) D0):=hI hm7;have HB7:Hid (Below (w2.heap.size+1+1) ((w2.alloc (.cells #[.slice none 0 0] 22)).alloc (.cells #[zBj w.heap.size w2.heap.size (w2.heap.size+1)] 63)) w7):=hI ((((Below.refl _ _).alloc (by rw [HW4.out];exact Nat.le_refl _) _).trans (HB6.out _ (Nat.le_refl _))).trans (hb7 _ (Nat.le_refl _)));clear hr7 hm7 hz7 hk7 hb7)
     | (obtain ⟨w6,hr6,hm6,hz6,hk6,hb6⟩:=zDj (w:=((w2.alloc (.cells #[.slice none 0 0] 22)).alloc (.cells #[zBj w.heap.size w2.heap.size (w2.heap.size+1)] 63)).alloc (.map #[] 0)) (b:=w2.heap.size+1+1) (D:=[]) (by have:=HMD.out ((w2.alloc (.cells #[.slice none 0 0] 22)).alloc (.cells #[zBj w.heap.size w2.heap.size (w2.heap.size+1)] 63));rw [HW4.out] at this;exact this) ⟨#[]⟩ [] rfl ⟨⟨#[]⟩,⟨#[]⟩,⟨#[]⟩⟩;refine zCA (mv:=.map (some (w2.heap.size+1+1))) (kv:=.string ⟨#[]⟩) (vv:=atV ⟨⟨#[]⟩,⟨#[]⟩,⟨#[]⟩⟩) rfl _ _ _ _ rfl rfl rfl rfl hr6 ?_;have HM6:=hI hm6;have HB6:=hI hb6;clear hr6 hm6 hz6 hk6 hb6)
     | (go_at_call 39;(with_reducible refine (HCALL.out w2 w7 (stp (stp HB0.out HB1.out) HB2.out) (HBX.out w2 (stp HB1.out HB2.out)) HB7.out HM7.out).mono ?_);rintro e8 w8 ⟨A8,k8,c8,rfl,hb8,hl8,hm8⟩;have HB8:=hI hb8;clear hb8 hl8 hm8)
     | fail)
    go_ret2
    exact zBh.no rfl HB8.out
   | true =>
    have hlz:l=WW.1.1/\z=0:=by
     have:=HLZ.out;rw [HQQ.out] at this;injection this with h1 h2;exact ⟨h1,h2⟩
    obtain ⟨rfl,rfl⟩:=hlz
    go_wp2_with (first
     | (go_at_call 36;(with_reducible refine (HC.out _ HB0.out).mono ?_);rintro e1 w1 ⟨rfl,hb1⟩;have HB1:=hI hb1;have kv1:=cell_of_one (HBX.out w1 hb1);clear hb1)
     | (go_at_call 37;(with_reducible refine (HR.out _ (stp HB0.out HB1.out)).mono ?_);rintro e2 w2 ⟨rfl,hb2⟩;have HB2:=hI hb2;have HW4:Hid (((w2.alloc (.cells #[.slice none 0 0] 22)).alloc (.cells #[zBj w.heap.size w2.heap.size (w2.heap.size+1)] 63)).heap.size=w2.heap.size+1+1):=hI (by rw [World.size_alloc,World.size_alloc]);clear hb2)
     | (obtain ⟨w7,hr7,hm7,hz7,hk7,hb7⟩:=zDj HM6.out ⟨#[120,109,108]⟩ xml3 rfl ⟨⟨#[]⟩,⟨#[]⟩,⟨zAr.toArray⟩⟩;refine zCA (mv:=.map (some (w2.heap.size+1+1))) (kv:=.string ⟨#[120,109,108]⟩) (vv:=atV ⟨⟨#[]⟩,⟨#[]⟩,⟨zAr.toArray⟩⟩) rfl _ _ _ _ rfl rfl rfl rfl hr7 ?_;have HM7:Hid (MapD w7 (w2.heap.size+1+1) D0):=hI hm7;have HB7:Hid (Below (w2.heap.size+1+1) ((w2.alloc (.cells #[.slice none 0 0] 22)).alloc (.cells #[zBj w.heap.size w2.heap.size (w2.heap.size+1)] 63)) w7):=hI ((((Below.refl _ _).alloc (by rw [HW4.out];exact Nat.le_refl _) _).trans (HB6.out _ (Nat.le_refl _))).trans (hb7 _ (Nat.le_refl _)));clear hr7 hm7 hz7 hk7 hb7)
     | (obtain ⟨w6,hr6,hm6,hz6,hk6,hb6⟩:=zDj (w:=((w2.alloc (.cells #[.slice none 0 0] 22)).alloc (.cells #[zBj w.heap.size w2.heap.size (w2.heap.size+1)] 63)).alloc (.map #[] 0)) (b:=w2.heap.size+1+1) (D:=[]) (by have:=HMD.out ((w2.alloc (.cells #[.slice none 0 0] 22)).alloc (.cells #[zBj w.heap.size w2.heap.size (w2.heap.size+1)] 63));rw [HW4.out] at this;exact this) ⟨#[]⟩ [] rfl ⟨⟨#[]⟩,⟨#[]⟩,⟨#[]⟩⟩;refine zCA (mv:=.map (some (w2.heap.size+1+1))) (kv:=.string ⟨#[]⟩) (vv:=atV ⟨⟨#[]⟩,⟨#[]⟩,⟨#[]⟩⟩) rfl _ _ _ _ rfl rfl rfl rfl hr6 ?_;have HM6:=hI hm6;have HB6:=hI hb6;clear hr6 hm6 hz6 hk6 hb6)
     | (go_at_call 39;(with_reducible refine (HCALL.out w2 w7 (stp (stp HB0.out HB1.out) HB2.out) (HBX.out w2 (stp HB1.out HB2.out)) HB7.out HM7.out).mono ?_);rintro e8 w8 ⟨A8,k8,c8,rfl,hb8,hl8,hm8⟩;have HB8:=hI hb8;have kl8:=cell_of_one hl8;have HTW:=hI (zPL A8 k8 c8 WW.1.1 w8 (hm8 HQQ.out).1 (hm8 HQQ.out).2 (by have:=HLEN.out HQQ.out;have:=(hm8 HQQ.out).2;omega) HSM.out);clear hb8 hl8 hm8)
     | (go_at_call 43;(with_reducible refine (HTW.out).mono ?_);rintro e9 w9 ⟨A9,c9,rfl,ho9,hb9⟩;have HO9:=hI ho9;have HB9:=hI hb9;clear ho9 hb9)
     | fail)
    go_ret2
    exact ⟨A9,c9,rfl,⟨HO9.out.rd.mono λb hb=>⟨Nat.le_trans HB8.out.size hb.1,hb.2.1,hb.2.2.1,λ_=>hb.2.2.2 hb.1⟩,HO9.out.le,HO9.out.cm,HO9.out.nil⟩,stp HB8.out HB9.out⟩
theorem zFW:∀(S:List (List UInt8)) (i k:Nat),i+S.length<=500000->(∀s∈S,s.length<=k)->∀a∈numD i S,a.space.length<=k+16/\a.name.length<=k+16/\a.value.length<=k+16
 | [],i,k,_,_,a,ha=>by cases ha
 | s::S,i,k,hi,hS,a,ha=>by
  rw [List.length_cons] at hi;rw [numD] at ha;rcases List.mem_cons.1 ha with rfl | ha
  · have h1:=hS s List.mem_cons_self
    have h2:=zEc i (by omega);refine ⟨Nat.zero_le _,?_,by show s.length<=k+16;omega⟩;show (zAQ++58::zBf i).length<=k+16;rw [List.length_append,List.length_cons];have:zAQ.length=5:=rfl
    omega
  · exact zFW S (i+1) k (by omega) (λs hs=>hS s (List.mem_cons_of_mem _ hs)) a ha
theorem zIR {S:List (List UInt8)} {k:Nat} {a:At} (hS:S.length<=500000) (h:a.space.length<=k/\a.name.length<=k/\a.value.length<=k):(zBF S a).space.length<=k+16/\(zBF S a).name.length<=k+16/\(zBF S a).value.length<=k+16:=by
 obtain ⟨h1,h2,h3⟩:=h;have h4:=zEc (S.idxOf a.space) (by have:=List.idxOf_le_length (a:=a.space) (l:=S);omega);have h5:xml3.length=3:=rfl;unfold zBF
 split
 · exact ⟨Nat.zero_le _,by show a.name.length<=_;omega,by show a.value.length<=_;omega⟩
 · split
   · refine ⟨Nat.zero_le _,?_,by show a.value.length<=_;omega⟩
     show (xml3++58::a.name).length<=_;rw [List.length_append,List.length_cons]
     omega
   · refine ⟨Nat.zero_le _,?_,by show a.value.length<=_;omega⟩
     show (zBf (S.idxOf a.space)++58::a.name).length<=_;rw [List.length_append,List.length_cons]
     omega
theorem zIm {k:Nat} (hk:k<=900000) (o:List UInt8) {n:Nd} (h:zAy k n):zAW (zCy o n):=by
 have hl:=zCE n.attrs [];rw [List.length_nil] at hl;have ha:=h.attrs;refine ⟨Nat.zero_le _,Nat.le_trans h.name (by omega),Nat.zero_le _,?_,λa hm=>?_⟩
 · show (zBN o n).length<=_
   unfold zBN;rw [List.length_append,List.length_append,zDD,List.length_map];have:=zDn o n
   omega
 · have hm:a∈zBN o n:=hm
   unfold zBN at hm;rcases List.mem_append.1 hm with hm | hm
   · unfold ownD at hm
     split at hm
     · cases hm
     · obtain rfl:=List.mem_singleton.1 hm
       exact ⟨Nat.zero_le _,by show zAQ.length<=1000000;decide,Nat.le_trans h.space (by omega)⟩
   · rcases List.mem_append.1 hm with hm | hm
     · obtain ⟨h1,h2,h3⟩:=zFW (zAn [] n.attrs) 0 k (by omega) (λs hs=>by
        rcases (zBQ n.attrs []).2.2 s hs with h0 | ⟨b,hb,rfl,_⟩
        · cases h0
        · exact (h.each b hb).1) a hm
       exact ⟨by omega,by omega,by omega⟩
     · obtain ⟨b,hb,rfl⟩:=List.mem_map.1 hm
       obtain ⟨h1,h2,h3⟩:=zIR (S:=zAn [] n.attrs) (by omega) (h.each b hb);exact ⟨by omega,by omega,by omega⟩
theorem zFn {k:Nat} (hk:k<=900000) {v:List Nd} (o:List UInt8) (h:∀n∈v,zAy k n):∀m∈(zGr v o).1.1,zAW m :=
 (zD3 (P:=λ_=>True) (Q:=zAy k) (W:=zAW) (λo n _ hn=>⟨zIm hk o hn,trivial⟩) (λn hn=>hn.to (by omega)) 12 o v trivial h).1
theorem zEX {v l:List Nd} {o:List UInt8} {z:Int} (hq:zCS v o=(l,z)) (h:¬(mayS v=true/\okT o=true/\o≠zAr/\o≠zAc)):l=[]/\z=8:=by
 unfold zCS at hq;rw [if_neg h] at hq;injection hq with h1 h2;exact ⟨h1.symm,h2.symm⟩
theorem zQQ (A:Option Addr) (n c:Nat) (v:List Nd) (o:ByteArray) (w:World) (hr:RdB NdS w A v) (hn:v.length=n) (hmax:n<=9223372036854775807) (hsm:n<=512->∀m∈v,zAy 900000 m) (hos:o.size<=1000000) (hT:TbH w) (l:List Nd) (z:Int) (hq:zCS v o.data.toList=(l,z)) :
 Calls prog 15 #[.slice A n c,.string o] w (zBh l z w):=by
 have hmf:∀(fn:Fn) (first cap:Array Value) (w:World),(Instr.makeFunc fn first cap).run prog w=.ok (.func fn first cap) w:=λ_ _ _ _=>rfl
 have HB0:Hid (Below w.heap.size w (w.alloc (.cells #[.slice A n c] 22))):=hI (stpA (Below.refl _ _) _);have HBX:Hid (∀w1,Below (w.alloc (.cells #[.slice A n c] 22)).heap.size (w.alloc (.cells #[.slice A n c] 22)) w1->w1.heap[w.heap.size]?=some (.cells #[.slice A n c] 22 (0,0))):=hI λw1 hb=>zAB (heap_alloc_new w _) hb
 have hsm9:n<=512->∀m∈v,zAW m:=λh m hm=>(hsm h m hm).to (by decide)
 have HC:Hid (∀W,Below w.heap.size w W->Calls prog 18 #[.slice A n c] W λe w'=>e=.returned (.int .i64 (zEE v))/\Below W.heap.size W w'):=hI λW hW=>zP7 A n c v W (hr.on hW) hn hmax hsm9 _ rfl
 cases hm:mayS v with
 | false =>
  have hc:zEE v=8:=by unfold zEE;rw [hm];rfl
  rw [hc] at HC;obtain ⟨rfl,rfl⟩:=zEX hq (λh=>by rw [hm] at h;cases h.1);clear hr hn hmax hsm hsm9 hq hos hm hT hc
  go_enter func15,ntmps15
  go_wp2_with (first
   | (go_at_call 18;(with_reducible refine (HC.out _ HB0.out).mono ?_);rintro e1 w1 ⟨rfl,hb1⟩;have HB1:=hI hb1;have kv1:=cell_of_one (HBX.out w1 hb1);clear hb1)
   | fail)
  go_ret2
  exact zBh.no rfl (stp HB0.out HB1.out)
 | true =>
  have hc:zEE v=0:=by unfold zEE;rw [hm];rfl
  rw [hc] at HC;have hmv:=(zEZ.1 hm).2;have h5:=(zAs.1 hmv).1;have hrest:=(zAs.1 hmv).2.2;have hs:=hsm (by omega);have hs9:=hsm9 (by omega);obtain ⟨er,her⟩:∃er,chkE o=er:=⟨_,rfl⟩;have HCT:Hid (∀W:World,Calls prog 47 #[.string o] W λe w'=>e=.returned (.int .i64 er)/\Below W.heap.size W w'):=hI λW=>zCb o W hos er her
  obtain ⟨a2,h2⟩:∃a,decide (o.data.toList=zAr)=a:=⟨_,rfl⟩;obtain ⟨a3,h3⟩:∃a,decide (o.data.toList=zAc)=a:=⟨_,rfl⟩;have f2:=zCO o zAr a2 h2;have f3:=zCO o zAc a3 h3;unfold zAr at f2;unfold zAc at f3
  cases hok:okT o.data.toList with
  | false =>
   have h0:¬er=0:=by rw [←her];exact zEa hok
   obtain ⟨rfl,rfl⟩:=zEX hq (λh=>by rw [hok] at h;cases h.2.1);clear hr hn hmax hsm hsm9 hq hos hm hT hc hmv h5 hrest hs hs9 h2 h3 her hok
   go_enter func15,ntmps15
   go_wp2_with (first
    | (go_at_call 18;(with_reducible refine (HC.out _ HB0.out).mono ?_);rintro e1 w1 ⟨rfl,hb1⟩;have HB1:=hI hb1;have kv1:=cell_of_one (HBX.out w1 hb1);clear hb1)
    | (go_at_call 47;(with_reducible refine (HCT.out w1).mono ?_);rintro e2 w2 ⟨rfl,hb2⟩;have HB2:=hI hb2;clear hb2)
    | fail)
   go_ret2
   exact zBh.no rfl (stp (stp HB0.out HB1.out) HB2.out)
  | true =>
   obtain rfl:er=0:=by rw [←her];exact zE8 hok
   cases a2 with
   | true =>
    obtain ⟨rfl,rfl⟩:=zEX hq (λh=>h.2.2.1 (of_decide_eq_true h2));clear hr hn hmax hsm hsm9 hq hos hm hT hc hmv h5 hrest hs hs9 h2 h3 her hok
    go_enter func15,ntmps15
    go_wp2_with (first
     | (go_at_call 18;(with_reducible refine (HC.out _ HB0.out).mono ?_);rintro e1 w1 ⟨rfl,hb1⟩;have HB1:=hI hb1;have kv1:=cell_of_one (HBX.out w1 hb1);clear hb1)
     | (go_at_call 47;(with_reducible refine (HCT.out w1).mono ?_);rintro e2 w2 ⟨rfl,hb2⟩;have HB2:=hI hb2;clear hb2)
     | fail)
    go_ret2
    exact zBh.no rfl (stp (stp HB0.out HB1.out) HB2.out)
   | false =>
    cases a3 with
    | true =>
     obtain ⟨rfl,rfl⟩:=zEX hq (λh=>h.2.2.2 (of_decide_eq_true h3));clear hr hn hmax hsm hsm9 hq hos hm hT hc hmv h5 hrest hs hs9 h2 h3 her hok
     go_enter func15,ntmps15
     go_wp2_with (first
      | (go_at_call 18;(with_reducible refine (HC.out _ HB0.out).mono ?_);rintro e1 w1 ⟨rfl,hb1⟩;have HB1:=hI hb1;have kv1:=cell_of_one (HBX.out w1 hb1);clear hb1)
      | (go_at_call 47;(with_reducible refine (HCT.out w1).mono ?_);rintro e2 w2 ⟨rfl,hb2⟩;have HB2:=hI hb2;clear hb2)
      | fail)
     go_ret2
     exact zBh.no rfl (stp (stp HB0.out HB1.out) HB2.out)
    | false =>
     have hp0:0<v.length:=by
      obtain ⟨_,⟨m,l,rfl,_⟩,_⟩:=zAs.1 hmv
      simp
     obtain ⟨WW,hWW⟩:∃WW,zGr v o.data.toList=WW:=⟨_,rfl⟩
     have hlz:(l,z)=if WW.1.2=true then (WW.1.1,0) else ([],4):=by
      rw [←hq];unfold zCS;rw [if_pos ⟨hm,hok,of_decide_eq_false h2,of_decide_eq_false h3⟩,hWW]
     have hlen:WW.1.2=true->WW.1.1.length<=512:=λ_=>by
      have:=(zBC (f:=zCQ) (dn:=zA3) 12 v [] o.data.toList hrest).2;rw [show zAK zCQ zA3 12 o.data.toList v=zGr v o.data.toList from rfl,hWW] at this
      simp at this
      omega
     have hsmall:∀m∈WW.1.1,zAW m:=λm hm=>by
      rw [←hWW] at hm;exact zFn (by decide) o.data.toList hs m hm
     obtain ⟨qq,hqq⟩:∃qq,WW.1.2=qq:=⟨_,rfl⟩
     have HCALL:Hid (∀(w2:World),Below w.heap.size w w2->w2.heap[w.heap.size]?=some (.cells #[.slice A n c] 22 (0,0)) →
      Calls prog 48 #[.string o,.pointer (some ⟨w.heap.size,0,none⟩),.pointer (some ⟨w2.heap.size,0,none⟩),.pointer (some ⟨w2.heap.size+1,0,none⟩)] ((w2.alloc (.cells #[.slice none 0 0] 22)).alloc (.cells #[.func (.func 48) #[] #[.pointer (some ⟨w.heap.size,0,none⟩),.pointer (some ⟨w2.heap.size,0,none⟩),.pointer (some ⟨w2.heap.size+1,0,none⟩)]] 38)) λe w'=>∃(A':Option Addr) (k' c':Nat),e=.returned (.bool qq)/\Below w.heap.size w w'∧w'.heap[w2.heap.size]?=some (.cells #[.slice A' k' c'] 22 (0,0))/\(WW.1.2=true->RdB NdS w' A' WW.1.1/\WW.1.1.length=k')):=hI λw2 hb hv=>by
      have hst:=zL4 (clo:=zCp w.heap.size w2.heap.size (w2.heap.size+1)) (tc:=38) (c:=c) hr hb (by rw [hn];exact hv);have hbw:=hb.trans ((stpA (stpA (Below.refl w2.heap.size w2) (.cells #[.slice none 0 0] 22)) (.cells #[zCp w.heap.size w2.heap.size (w2.heap.size+1)] 38)).mono hb.size);refine (zQx _ _ _ _ _ A c v h5 hs9 (zF5 hmv) 12 o [] (.slice none 0 0) [] _ (λW hW=>hT.to (hbw.trans hW)) hp0 hrest hst).mono ?_;rintro e w' ⟨M,V',rfl,hf,hs2,hM⟩;rw [List.nil_append] at hs2;rw [List.length_nil,List.drop_zero,show zAK zCQ zA3 12 o.data.toList v=zGr v o.data.toList from rfl,hWW] at hM ⊢;obtain ⟨A1,c1,rfl,hrd⟩:=hs2.read;refine ⟨A1,M.length,c1,by rw [hqq],hbw.trans hf.bel,hs2.hl,λhh=>?_⟩;rw [hM hh] at hrd;exact ⟨hrd,by rw [←hM hh,List.length_map]⟩
     have HLZ:=hI hlz;have HQQ:=hI hqq;have HSM:=hI hsmall;have HLEN:=hI hlen;clear hr hn hmax hsm hsm9 hq hos hm hT hc hmv h5 hrest hs hs9 h2 h3 her hok hp0 hWW hlz hlen hsmall hqq
     go_enter func15,ntmps15
     cases qq with
     | false =>
      have hlz:l=[]/\z=4:=by
       have:=HLZ.out;rw [HQQ.out] at this;injection this with h1 h2;exact ⟨h1,h2⟩
      obtain ⟨rfl,rfl⟩:=hlz
      go_wp2_with (first
       | (go_at_call 18;(with_reducible refine (HC.out _ HB0.out).mono ?_);rintro e1 w1 ⟨rfl,hb1⟩;have HB1:=hI hb1;have kv1:=cell_of_one (HBX.out w1 hb1);clear hb1)
       | (go_at_call 47;(with_reducible refine (HCT.out w1).mono ?_);rintro e2 w2 ⟨rfl,hb2⟩;have HB2:=hI hb2;clear hb2)
       | (go_at_call 48;(with_reducible refine (HCALL.out w2 (stp (stp HB0.out HB1.out) HB2.out) (HBX.out w2 (stp HB1.out HB2.out))).mono ?_);rintro e8 w8 ⟨A8,k8,c8,rfl,hb8,hl8,hm8⟩;have HB8:=hI hb8;clear hb8 hl8 hm8)
       | fail)
      go_ret2
      exact zBh.no rfl HB8.out
     | true =>
      have hlz:l=WW.1.1/\z=0:=by
       have:=HLZ.out;rw [HQQ.out] at this;injection this with h1 h2;exact ⟨h1,h2⟩
      obtain ⟨rfl,rfl⟩:=hlz
      go_wp2_with (first
       | (go_at_call 18;(with_reducible refine (HC.out _ HB0.out).mono ?_);rintro e1 w1 ⟨rfl,hb1⟩;have HB1:=hI hb1;have kv1:=cell_of_one (HBX.out w1 hb1);clear hb1)
       | (go_at_call 47;(with_reducible refine (HCT.out w1).mono ?_);rintro e2 w2 ⟨rfl,hb2⟩;have HB2:=hI hb2;clear hb2)
       | (go_at_call 48;(with_reducible refine (HCALL.out w2 (stp (stp HB0.out HB1.out) HB2.out) (HBX.out w2 (stp HB1.out HB2.out))).mono ?_);rintro e8 w8 ⟨A8,k8,c8,rfl,hb8,hl8,hm8⟩;have HB8:=hI hb8;have kl8:=cell_of_one hl8;have HTW:=hI (zPL A8 k8 c8 WW.1.1 w8 (hm8 HQQ.out).1 (hm8 HQQ.out).2 (by have:=HLEN.out HQQ.out;have:=(hm8 HQQ.out).2;omega) HSM.out);clear hb8 hl8 hm8)
       | (go_at_call 43;(with_reducible refine (HTW.out).mono ?_);rintro e9 w9 ⟨A9,c9,rfl,ho9,hb9⟩;have HO9:=hI ho9;have HB9:=hI hb9;clear ho9 hb9)
       | fail)
      go_ret2
      exact ⟨A9,c9,rfl,⟨HO9.out.rd.mono λb hb=>⟨Nat.le_trans HB8.out.size hb.1,hb.2.1,hb.2.2.1,λ_=>hb.2.2.2 hb.1⟩,HO9.out.le,HO9.out.cm,HO9.out.nil⟩,stp HB8.out HB9.out⟩
end Hx
namespace Hx
open Lx Tr Tx Nmb Es
theorem zAq {w w':World} {b o:Nat} (h:w'.heap[b]?=w.heap[b]?):w'.cell? ⟨b,o,none⟩=w.cell? ⟨b,o,none⟩:=by simp [World.cell?,h]
theorem zOe {w:World} {base:Nat} {e:TypeId} {size n c g j:Nat} {xs:List Value} (h:w.ownsRow base e size (.slice (some ⟨g,0,none⟩) n c) n xs) (u:Value) (hj:j<n*size) :
 (w.setCell ⟨g,j,none⟩ u).ownsRow base e size (.slice (some ⟨g,0,none⟩) n c) n (xs.set j u):=by
 refine ⟨by rw [List.length_set];exact h.1,.inr ?_⟩;rcases h.2 with ⟨e0,_⟩ | ⟨g',cap,cur,hv,hb,hg,h1,h2,h3,h4⟩
 · cases e0
 · injection hv with e1 _ e3
   injection e1 with e1;injection e1 with e1 _ _;subst e1 e3;refine ⟨g,c,cur.setIfInBounds j u,rfl,hb,heap_setCell_same w g j cur e u hg,h1,h2,by rw [Array.size_setIfInBounds];exact h3,?_⟩;rw [Array.toList_setIfInBounds,←h4,List.take_set]
theorem zOv {w:World} {base:Nat} {e:TypeId} {size n c m:Nat} {A:Option Addr} {xs:List Value} (h:w.ownsRow base e size (.slice A n c) n xs) (hm:m<=n):w.ownsRow base e size (.slice A m c) m (xs.take (m*size)):=by
 have hms:m*size<=n*size:=Nat.mul_le_mul_right _ hm;refine ⟨by rw [List.length_take,h.1];omega,?_⟩;rcases h.2 with ⟨e0,h0⟩ | ⟨g,cap,cur,hv,hb,hg,h1,h2,h3,h4⟩
 · injection e0 with e1 e2 e3
   subst e1 e2 e3;obtain rfl:m=0:=by omega
   exact .inl ⟨rfl,rfl⟩
 · injection hv with e1 _ e3
   subst e1 e3;refine .inr ⟨g,c,cur,rfl,hb,hg,by omega,h2,h3,?_⟩;rw [←h4,List.take_take]
   congr 1
   omega
structure GrSt (base hi:Nat) (L:List NB) (O:List Nat) (Vn Vo:Value) (wr:World):Prop where
 nd:wr.ownsRow base 42 6 Vn L.length (L.flatMap zAL)
 op:wr.ownsRow base 3 1 Vo O.length ((zs O).map encZ)
 ne:∀q,Vn.ownBlock=some q->Vo.ownBlock≠some q
 inn:∀b∈L,NdIn b.n b.x b.y b.z b.A b.c wr (λk=>base<=k/\k<hi/\some k≠Vn.ownBlock/\some k≠Vo.ownBlock)
 lo:base<=hi
 sz:hi<=wr.heap.size
theorem zCZ {w w':World} {base:Nat} {e:TypeId} {size:Nat} {v:Value} {n:Nat} {xs:List Value} (h:w.ownsRow base e size v n xs) (hk:∀q,v.ownBlock=some q->w'.heap[q]?=w.heap[q]?):w'.ownsRow base e size v n xs:=by
 refine ⟨h.1,?_⟩;rcases h.2 with h0 | ⟨g,cap,cur,hv,hb,hg,h1⟩
 · exact .inl h0
 · exact .inr ⟨g,cap,cur,hv,hb,(hk g (by rw [hv];rfl)).trans hg,h1⟩
theorem GrSt.keep {base hi hi':Nat} {L:List NB} {O:List Nat} {Vn Vo:Value} {wr w':World} (h:GrSt base hi L O Vn Vo wr) (hk:∀q,base<=q->(q<hi∨Vn.ownBlock=some q∨Vo.ownBlock=some q)->w'.heap[q]?=wr.heap[q]?) (h1:hi<=hi') (h2:hi'≤w'.heap.size):GrSt base hi' L O Vn Vo w' :=
 ⟨zCZ h.nd λq hq=>hk q (h.nd.lt q hq).1 (.inr (.inl hq)),zCZ h.op λq hq=>hk q (h.op.lt q hq).1 (.inr (.inr hq)),h.ne,
  λb hb=>(h.inn b hb).keep (λk hk=>⟨hk.1,Nat.lt_of_lt_of_le hk.2.1 h1,hk.2.2⟩) λb o hS=>zAq (hk b hS.1 (.inl hS.2.1)),Nat.le_trans h.lo h1,h2⟩
theorem GrSt.below {base hi hi':Nat} {L:List NB} {O:List Nat} {Vn Vo:Value} {wr w':World} (h:GrSt base hi L O Vn Vo wr) (hb:Below wr.heap.size wr w') (h1:hi<=hi') (h2:hi'≤w'.heap.size):GrSt base hi' L O Vn Vo w' :=
 h.keep (λq _ hq=>hb.block q (by
  rcases hq with hq | hq | hq
  · exact Nat.lt_of_lt_of_le hq h.sz
  · exact (h.nd.lt q hq).2
  · exact (h.op.lt q hq).2)) h1 h2
theorem GrSt.push {base hi:Nat} {L:List NB} {O:List Nat} {Vn Vo V5:Value} {w2 w5:World} (h:GrSt base hi L O Vn Vo w2) (b:NB) (hb:NdIn b.n b.x b.y b.z b.A b.c w2 (λk=>base<=k/\k<hi/\some k≠Vn.ownBlock/\some k≠Vo.ownBlock))
 (hown:w5.ownsRow base 42 6 V5 (L.length+1) (L.flatMap zAL++zAL b)) (hgr:w2.grownBy w5 Vn.ownBlock) (hlie:V5.ownBlock=Vn.ownBlock∨∃q,hi<=q/\V5.ownBlock=some q/\Vo.ownBlock≠some q):GrSt base hi (L++[b]) O V5 Vo w5:=by
 have hne:∀q,V5.ownBlock=some q->Vo.ownBlock≠some q:=λq hq=>by
  rcases hlie with e | ⟨q',_,e,e2⟩
  · exact h.ne q (by rw [←e];exact hq)
  · rw [e] at hq
    injection hq with hq;rw [←hq];exact e2
 have hS:∀k,(base<=k/\k<hi/\some k≠Vn.ownBlock/\some k≠Vo.ownBlock)->(base<=k/\k<hi/\some k≠V5.ownBlock/\some k≠Vo.ownBlock):=λk hk=>⟨hk.1,hk.2.1,λe=>by
  rcases hlie with e1 | ⟨q',h1,e1,_⟩
  · exact hk.2.2.1 (by rw [←e1];exact e)
  · rw [e1] at e
    injection e with e;have:=hk.2.1
    omega,hk.2.2.2⟩
 have hc:∀k o,(base<=k/\k<hi/\some k≠Vn.ownBlock/\some k≠Vo.ownBlock)->w5.cell? ⟨k,o,none⟩=w2.cell? ⟨k,o,none⟩:=λk o hk=>zAq (hgr.block k (Nat.lt_of_lt_of_le hk.2.1 h.sz) hk.2.2.1)
 refine ⟨by rw [List.length_append,List.flatMap_append];simpa using hown,zCZ h.op λq hq=>hgr.block q (h.op.lt q hq).2 (λe=>h.ne q e.symm hq),hne,λb' hb'=>?_,h.lo,Nat.le_trans h.sz hgr.size⟩;rcases List.mem_append.1 hb' with hb' | hb'
 · exact (h.inn b' hb').keep hS hc
 · obtain rfl:=List.mem_singleton.1 hb'
   exact hb.keep hS hc
theorem GrSt.open {base hi:Nat} {L:List NB} {O:List Nat} {Vn Vo V5:Value} {w2 w5:World} (h:GrSt base hi L O Vn Vo w2) (i:Nat)
 (hown:w5.ownsRow base 3 1 V5 (O.length+1) ((zs O).map encZ++[.int .i64 i])) (hgr:w2.grownBy w5 Vo.ownBlock) (hlie:V5.ownBlock=Vo.ownBlock∨∃q,hi<=q/\V5.ownBlock=some q/\Vn.ownBlock≠some q):GrSt base hi L (O++[i]) Vn V5 w5:=by
 have hne:∀q,Vn.ownBlock=some q->V5.ownBlock≠some q:=λq hq=>by
  rcases hlie with e | ⟨q',_,e,e2⟩
  · rw [e];exact h.ne q hq
  · rw [e]
    intro e3;injection e3 with e3;rw [e3] at e2;exact e2 hq
 have hS:∀k,(base<=k/\k<hi/\some k≠Vn.ownBlock/\some k≠Vo.ownBlock)->(base<=k/\k<hi/\some k≠Vn.ownBlock/\some k≠V5.ownBlock):=λk hk=>⟨hk.1,hk.2.1,hk.2.2.1,λe=>by
  rcases hlie with e1 | ⟨q',h1,e1,_⟩
  · exact hk.2.2.2 (by rw [←e1];exact e)
  · rw [e1] at e
    injection e with e;have:=hk.2.1
    omega⟩
 have hc:∀k o,(base<=k/\k<hi/\some k≠Vn.ownBlock/\some k≠Vo.ownBlock)->w5.cell? ⟨k,o,none⟩=w2.cell? ⟨k,o,none⟩:=λk o hk=>zAq (hgr.block k (Nat.lt_of_lt_of_le hk.2.1 h.sz) hk.2.2.2)
 refine ⟨zCZ h.nd λq hq=>hgr.block q (h.nd.lt q hq).2 (λe=>h.ne q hq e.symm),?_,hne,λb' hb'=>(h.inn b' hb').keep hS hc,h.lo,Nat.le_trans h.sz hgr.size⟩;have e:(zs (O++[i])).map encZ=(zs O).map encZ++[.int .i64 i]:=by simp [zs,encZ]
 rw [e,List.length_append];exact hown
theorem GrSt.shut {base hi:Nat} {L:List NB} {O:List Nat} {Vn:Value} {A:Option Addr} {n c m:Nat} {wr:World} (h:GrSt base hi L O Vn (.slice A n c) wr) (hn:O.length=n) (hm:m+1=n):GrSt base hi L O.dropLast Vn (.slice A m c) wr:=by
 subst hn;have hl:O.dropLast.length=m:=by rw [List.length_dropLast];omega
 have ho:∀x y:Nat,(Value.slice A x c).ownBlock=(Value.slice A y c).ownBlock:=λ_ _=>by cases A <;> rfl
 refine ⟨h.nd,?_,λq hq=>by rw [ho m O.length];exact h.ne q hq,λb hb=>(h.inn b hb).keep (λk hk=>⟨hk.1,hk.2.1,hk.2.2.1,by rw [ho m O.length];exact hk.2.2.2⟩) λ_ _ _=>rfl,h.lo,h.sz⟩;have:=zOv h.op (m:=m) (by omega);rw [hl]
 have e:((zs O).map encZ).take (m*1)=(zs O.dropLast).map encZ:=by
  rw [←List.map_take,Nat.mul_one]
  congr 1
  unfold zs;rw [←List.map_take,List.dropLast_eq_take]
  congr 2
  omega
 rw [e] at this;exact this
def zEL (b:NB):NB:={ b with n:=zCX b.n }
theorem zHn:∀(L:List NB) (i:Nat) (hi:i<L.length) (u:Value),zAL (zEL (L[i]'hi))=(zAL (L[i]'hi)).set 5 u->(L.modify i zEL).flatMap zAL=(L.flatMap zAL).set (i*6+5) u
 | [],i,hi,_,_=>absurd hi (Nat.not_lt_zero _)
 | b::L,0,_,u,h=>by
  have h:zAL (zEL b)=(zAL b).set 5 u:=h;rw [List.modify_zero_cons,List.flatMap_cons,List.flatMap_cons,h];have hl:(zAL b).length=6:=rfl;rw [List.set_append_left _ _ (by rw [hl];decide)]
 | b::L,i+1,hi,u,h=>by
  have h:zAL (zEL (L[i]'(by simpa using hi)))=(zAL (L[i]'(by simpa using hi))).set 5 u:=h;rw [List.modify_succ_cons,List.flatMap_cons,List.flatMap_cons,zHn L i (by simpa using hi) u h];have hl:(zAL b).length=6:=rfl;rw [List.set_append_right _ _ (by rw [hl];omega),hl]
  congr 2
  omega
theorem GrSt.bump {base hi:Nat} {L:List NB} {O:List Nat} {Vo:Value} {g c:Nat} {wr:World} (h:GrSt base hi L O (.slice (some ⟨g,0,none⟩) L.length c) Vo wr) (i:Nat) (hi':i<L.length) (hm:(L[i]'hi').n.many<=1000000) :
 GrSt base hi (L.modify i zEL) O (.slice (some ⟨g,0,none⟩) L.length c) Vo (wr.setCell ⟨g,i*6+5,none⟩ (.int .i64 ((L[i]'hi').n.many+1))):=by
 have hl:(L.modify i zEL).length=L.length:=List.length_modify ..;have hlt:=h.nd.lt g rfl;have hoth:∀q,q≠g->(wr.setCell ⟨g,i*6+5,none⟩ (.int .i64 ((L[i]'hi').n.many+1))).heap[q]?=wr.heap[q]?:=λq hq=>heap_setCell_other _ _ _ _ hq
 refine ⟨?_,zCZ h.op λq hq=>hoth q (λe=>h.ne g rfl (by rw [←e];exact hq)),h.ne,λb hb=>?_,h.lo,by have:=h.sz;simpa [World.setCell] using this⟩
 · rw [hl,zHn L i hi' (.int .i64 ((L[i]'hi').n.many+1)) rfl]
   exact zOe h.nd _ (by omega)
 · have hin:NdIn b.n b.x b.y b.z b.A b.c wr (λk=>base<=k/\k<hi/\some k≠(Value.slice (some ⟨g,0,none⟩) L.length c).ownBlock/\some k≠Vo.ownBlock):=by
    obtain ⟨j,hj,e⟩:=List.getElem_of_mem hb;rw [List.getElem_modify] at e;have hj':j<L.length:=by rw [←hl];exact hj
    have hold:=h.inn _ (List.getElem_mem hj')
    by_cases hij:i=j
    · rw [if_pos hij] at e
      subst hij;rw [←e];exact ⟨hold.space,hold.name,hold.text,hold.attrs,hold.le,hold.cm,hold.nil,hold.kd,by have:=hold.lo;show _<=_+1;omega,by show _+1<=_;omega⟩
    · rw [if_neg hij] at e
      rw [←e];exact hold
   exact hin.keep (λk hk=>hk) λk o hk=>zAq (hoth k (λe=>hk.2.2.1 (by rw [e];rfl)))
theorem zIb (L:List NB) (i:Nat):(L.modify i zEL).map NB.n=(L.map NB.n).modify i zCX:=by
 induction L generalizing i with
 | nil=>cases i <;> rfl
 | cons b L ih =>
  cases i with
  | zero=>rfl
  | succ i=>rw [List.modify_succ_cons,List.map_cons,ih,List.map_cons,List.modify_succ_cons]
end Hx
end Go.Proofs.YtlgppednjkbgiaaGreatDoor
