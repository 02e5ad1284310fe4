/- Texts put together. -/
import Derived.Test.YtlgppednjkbgiaaGreatDoorMiA
import Derived.Test.YtlgppednjkbgiaaGreatDoorMi26
import Derived.Test.YtlgppednjkbgiaaGreatDoorMi28
set_option maxRecDepth 100000
set_option maxHeartbeats 16000000
set_option linter.unusedVariables false
set_option linter.unusedSimpArgs false
namespace Go.Proofs.YtlgppednjkbgiaaGreatDoor
open Go.RowKit Go.Proofs.Tryz
namespace Hx
open Lx Tr Tx Nmb Es Ns
theorem zIR.part {v out:List Nd} {i:Int} {w w':World} {e:Ending} {n:Nat} (h:zIR v i w e w') (hs:subR v i=(out,0)) (hn:out.length=n):∃A c,e=.returned (.tuple #[.slice A n c,.int .i64 0])/\RdB NdS w' A out/\Below w.heap.size w w':=by
 obtain ⟨o2,q2,A,c,h1,h2,h3,h4⟩:=h;rw [hs] at h1;obtain ⟨rfl,rfl⟩:=(Prod.mk.injEq _ _ _ _).mp h1;exact ⟨A,c,by rw [←hn];exact h2,h3.all,h4⟩
theorem zNS {y tl:ByteArray} {hd:List UInt8} (h:y.data.toList=hd++tl.data.toList):tl.size<=y.size/\y.extract (y.size - tl.size) y.size=tl:=by
 have h1:=congrArg List.length h;rw [List.length_append,zAR,zAR] at h1;refine ⟨by omega,?_⟩;rw [zCt,h,show y.size - tl.size=hd.length by omega,List.drop_left,List.take_of_length_le (by rw [zAR];omega)]
theorem zQQ (A:Option Addr) (n c:Nat) (v:List Nd) (w:World) (hr:RdB NdS w A v) (hn:v.length=n) (hnc:n<=c) (hmax:n<=9223372036854775807) (hE:Ev9 w) (hT:TbH w) (hEE:EvE w) :
 Calls prog 10 #[.slice A n c] w λe w'=>e=.returned (.bool true)/\Below w.heap.size w w':=by
 have HR:=hI hr;have HN:=hI hn;have HNC:=hI hnc;have HG:Hid (∀W,Below w.heap.size w W->Calls prog 11 #[.slice A n c,.int .i64 100,.int .i64 5000] W (zCc v 100 5000 W)):=hI λW hW=>zO3 A n c v 100 5000 W (hr.on hW) hn (by decide) (by decide) hmax
 clear hr hn hmax hnc
 go_enter func10,ntmps10
 go_upto_region 4 with (first
  | (go_at_call 29;(with_reducible refine (zPu w hE hT hEE).mono ?_);rintro e1 w1 ⟨rfl,hb1⟩;have HB1:=hI hb1;clear hb1)
  | (go_at_call 11;(with_reducible refine (HG.out w1 HB1.out).mono ?_);rintro e2 w2 ⟨qa,rfl,hb2,hqa⟩;have HB2:=hI (stp HB1.out hb2);have HQA:=hI hqa;clear hb2 hqa)
  | fail)
 · go_ret
   exact ⟨rfl,HB2.out⟩
 · obtain rfl:qa=false:=by
    cases qa
    · rfl
    · first | exact absurd rfl (by assumption) | assumption | simp_all
   have hsm:∀m∈v,zA5 5000 m:=λm hm=>((HQA.out rfl).2 m hm).up (by decide)
   have HSM:=hI hsm;have hsn:∀m∈v,zAV m:=λm hm=>(hsm m hm).to (by decide)
   have HSN:=hI hsn;have hle:n<=100:=by have:=(HQA.out rfl).1;have:=HN.out;omega
   have HLE:=hI hle;obtain ⟨y,z,hy⟩:∃(y:ByteArray) (z:Int),zBS v (⟨#[]⟩:ByteArray).data.toList=(y.data.toList,z):=⟨⟨(zBS v []).1.toArray⟩,(zBS v []).2,rfl⟩;have HWR:=hI (zNp A n c v ⟨#[]⟩ w2 (HR.out.on HB2.out) HN.out (by omega) (λ_ m hm=>(hsm m hm).up (by decide)) (by decide) y z hy (hT.to HB2.out) (hEE.to HB2.out));obtain ⟨q,hq⟩:∃q,zBA v 0=q:=⟨_,rfl⟩;obtain ⟨l,hl⟩:∃l,zIf v 0=l:=⟨_,rfl⟩;obtain ⟨kn,hkn⟩:∃kn,l.length=kn:=⟨_,rfl⟩;have HKD:Hid (∀W,Below w.heap.size w W->Calls prog 34 #[.slice A n c,.int .i64 0] W λe w'=>Below W.heap.size W w'∧∃A c,e=.returned (.tuple #[.slice A kn c,.int .i64 q])/\(A=none->c=0)/\RdZ w' w'.heap.size A (zs l)):=hI λW hW=>(zRV A n c v 0 W (HR.out.on hW) HN.out (by omega) (λ_=>hsn) q hq l hl).mono λe w' h=>by unfold zPN at h;rwa [hkn] at h
   have bkn:kn<=100:=by have:=zIg hl;have:=HN.out;omega
   by_cases hz:z=0
   case neg =>
    have fz:(z==0)=false:=by simp;exact hz
    have fz2:(z != 0)=true:=by rw [bne,fz];rfl
    clear hy hsm hsn hq hl hkn hz
    go_wp2_with (first
     | (go_at_call 27;(with_reducible refine (HWR.out).mono ?_);rintro e3 w3 ⟨rfl,hb3⟩;have HB3:=hI (stp HB2.out hb3);clear hb3)
     | (go_at_call 34;(with_reducible refine (HKD.out w3 HB3.out).mono ?_);rintro e4 w4 ⟨hb4,A4,c4,rfl,-,-⟩;have HB4:=hI (stp HB3.out hb4);clear hb4)
     | fail)
    go_ret
    exact ⟨by first | rfl | exact zO2 fz2,HB4.out⟩
   subst hz;obtain ⟨m0,l0,hv,hk1,hmay,hm0,hU,hUl,hUlt,hW,hd,hall⟩:=zON hy;have h0:0<v.length:=by rw [hv];simp
   have hq0:zBA v 0=0:=by
    unfold zBA;rw [if_pos hmay,if_neg];have:=HN.out
    omega
   have hlu:l=zCp v 0:=by rw [←hl];unfold zIf;rw [if_pos hq0];rfl
   obtain rfl:q=0:=by rw [←hq,hq0]
   have hm0v:v[0]'h0=m0:=by subst hv;rfl
   obtain ⟨b0,off,x0,y0,z0,A1,c1,hA,hbB,hin,-,q1,q2,-,-,-⟩:=zBz HR.out h0;subst hA;rw [hm0v] at hin;have hs0:=hsm (v[0]'h0) (List.getElem_mem h0);rw [hm0v] at hs0;have HXL:Hid (x0.size<=5000):=hI (by rw [←zAR,hin.space];exact hs0.space);have HYL0:Hid (y0.size<=5000):=hI (by rw [←zAR,hin.name];exact hs0.name);have HN0:Hid (0<n):=hI (by rw [←HN.out];exact h0);have HX0:=hI hin.space;have HY0:=hI hin.name;have HC1:=hI q1;have HC2:=hI q2;have HBB:=hI hbB
   have HK:Hid (∀p∈l,∃hp:p<v.length,((v[p]'hp).kind=1->zBS (zA4 v p) m0.space=((zCl m0.space (zA4 v p)).flatMap zAK,0))/\zBA v (p:Int)=0):=hI λp hp=>by
    rw [hlu] at hp;have hpl:=hUlt p hp;refine ⟨hpl,hW p hp hpl,?_⟩;unfold zBA;rw [if_pos hmay,if_neg (by omega)]
   have HALL:Hid (∃hd,y.data.toList=hd++(if m0.many=0 then [47,62] else ((l.map (zA4 v)).flatMap λq=>(zCl m0.space q).flatMap zAK)++60::47::(m0.name++[62]))):=hI ⟨hd,by rw [hlu];exact hall⟩;have HM0:Hid (kn=0↔m0.many=0):=hI (by rw [←hkn,hlu,hUl];omega);have HKN:=hI hkn;have HYL:=hI (zFF hy);have HOK:Hid (∀m∈v,ndOk m=true):=hI (zEa hmay);clear hy hsm hsn hq hl hkn hv hk1 hmay hm0 hU hUl hUlt hW hall h0 hq0 hlu hm0v hin q1 q2 hbB hs0
   go_wp2_with (first
    | (go_at_call 27;(with_reducible refine (HWR.out).mono ?_);rintro e3 w3 ⟨rfl,hb3⟩;have HB3:=hI (stp HB2.out hb3);clear hb3)
    | (go_at_call 34;(with_reducible refine (HKD.out w3 HB3.out).mono ?_);rintro e4 w4 ⟨hb4,A4,c4,rfl,hz4,hr4⟩;have HB4:=hI (stp HB3.out hb4);have HR4:=hI hr4;clear hb4 hr4)
    | fail)
   go_loopg [8,9] kn (λgg x i wr=>∃(j:Nat) (xs:ByteArray),j+gg=kn/\i=.int .i64 j/\x=.string xs/\xs.data.toList=(((l.take j).map (zA4 v)).flatMap λq=>(zCl m0.space q).flatMap zAK)/\xs.size<=j*16384/\Below w4.heap.size w4 wr)
   case atStart=>exact ⟨0,⟨#[]⟩,by omega,rfl,rfl,rfl,Nat.zero_le _,Below.refl _ _⟩
   case round =>
    obtain ⟨j,xs,hjg,rfl,rfl,hxs,hxz,hbw⟩:=hrel;have HXS:=hI hxs;have HBW4:=hI hbw;have HBW:Hid (Below w.heap.size w wr):=hI (stp HB4.out hbw);have HJG:=hI hjg
    by_cases hlt:j<kn
    · have hjl:j<l.length:=by rw [HKN.out];exact hlt
      obtain ⟨pj,hpj⟩:∃pj,l[j]'hjl=pj:=⟨_,rfl⟩;obtain ⟨hpl,hpw,hpa⟩:=HK.out pj (by rw [←hpj];exact List.getElem_mem hjl);have hz9:(zs l).length=l.length:=by unfold zs;rw [List.length_map]
      obtain ⟨b4,o4,e4,hb4,hc4⟩:=HR4.out.on hbw (by rw [hz9];omega);have k4:=hc4 j (by rw [hz9];exact hjl);have hzj:(zs l)[j]'(by rw [hz9];exact hjl)=(pj:Int):=by rw [←hpj];simp [zs]
      rw [hzj] at k4;unfold encZ at k4;subst e4;obtain ⟨b5,off5,x5,y5,z5,A5,c5,hA5,hbB5,hin5,q5,-,-,-,-,-⟩:=zBz HR.out hpl;injection hA5 with hA5;injection hA5 with e5 e6;subst e5 e6;have r5:=(HBW.out.cell (p:=⟨b0,_,none⟩) hbB5).trans q5;have r1:=(HBW.out.cell (p:=⟨b0,_,none⟩) HBB.out).trans HC1.out;rw [Nat.zero_mul,Nat.add_zero] at r1;have bj:(0:Int)<=(j:Int)/\(j:Int)<(kn:Int):=by omega
      have bp:(0:Int)<=(pj:Int)/\(pj:Int)<(n:Int):=by have:=HN.out;omega
      have bn0:(0:Int)<(n:Int):=by have:=HN.out;omega
      have hlt2:(j:Int)<(kn:Int):=by omega
      obtain ⟨kd,hkd⟩:∃kd,(v[pj]'hpl).kind=kd:=⟨_,rfl⟩;rw [hkd] at r5;have hkd2:=zBY (HOK.out _ (List.getElem_mem hpl));rw [hkd] at hkd2;rcases hkd2 with rfl | rfl
      case inr =>
       clear hpw hxs hbw hin5 q5 hbB5 hc4 hb4 hzj hkd hpl hpj hjl hpa hz9 hz4
       go_wp2_with fail
       go_ret
       exact ⟨rfl,HBW.out⟩
      have hwj:=hpw hkd;obtain ⟨pn,hpn⟩:∃pn,(zA4 v pj).length=pn:=⟨_,rfl⟩
      have hsub:subR v (pj:Int)=(zA4 v pj,0):=by
       unfold subR;rw [if_pos hpa,Int.toNat_natCast,List.getElem?_eq_getElem hpl];dsimp only;rw [if_neg (by omega)]
      have HSB:Hid (Calls prog 35 #[.slice (some ⟨b0,off,none⟩) n c,.int .i64 (pj:Int)] wr λe w'=>∃A c,e=.returned (.tuple #[.slice A pn c,.int .i64 0])/\RdB NdS w' A (zA4 v pj)/\Below wr.heap.size wr w'):=hI ((zSf (some ⟨b0,off,none⟩) n c v (pj:Int) wr (HR.out.on HBW.out) HN.out HNC.out (by omega) (λ_=>HSN.out)).mono λe w' h=>h.part hsub hpn);obtain ⟨sj,hsj⟩:∃sj:ByteArray,sj.data.toList=(zCl m0.space (zA4 v pj)).flatMap zAK:=⟨⟨_⟩,rfl⟩;rw [←hsj] at hwj;have hsjz:=zFF hwj;rw [zAR] at hsjz
      have HWJ:Hid (∀A c W,Below w.heap.size w W->RdB NdS W A (zA4 v pj)->Calls prog 27 #[.slice A pn c,.string x0] W λe w'=>e=.returned (.tuple #[.string sj,.int .i64 0])/\Below W.heap.size W w'):=hI λA c W hW hA=>by
       obtain ⟨hs1,hs2⟩:=zKw hsub;exact zNp A pn c (zA4 v pj) x0 W hA hpn (by have:=HN.out;have:=HLE.out;omega) (λ_ m hm=>(HSM.out m (hs2 m hm)).up (by decide)) (by have:=HXL.out;omega) sj 0 (by rw [HX0.out];exact hwj) (hT.to hW) (hEE.to hW)
      have HTK:Hid ((xs++sj).data.toList=(((l.take (j+1)).map (zA4 v)).flatMap λq=>(zCl m0.space q).flatMap zAK)):=hI (by
       rw [List.take_succ_eq_append_getElem hjl,hpj,List.map_append,List.flatMap_append,zBy,HXS.out,hsj]
       simp)
      have HXZ:Hid ((xs++sj).size<=(j+1)*16384):=hI (by rw [ByteArray.size_append];omega);have f9:¬9223372036854775807<xs.size+sj.size:=by have:=HKN.out;omega
      clear hpw hxs hbw hin5 q5 hbB5 hc4 hb4 hzj hkd hpl hpj hjl hpa hz9 hz4 hwj hsub hsj hpn hxz
      go_wp2_with (first
       | (go_at_call 35;(with_reducible refine (HSB.out).mono ?_);rintro e6 w6 ⟨A6,c6,rfl,hr6,hb6⟩;have r6:=(hb6.cell (p:=⟨b0,_,none⟩) (Nat.lt_of_lt_of_le HBB.out HBW.out.size)).trans r1;have HR6:=hI hr6;have HB6:=hI hb6;clear hr6 hb6)
       | (go_at_call 27;(with_reducible refine (HWJ.out _ _ w6 (stp HBW.out HB6.out) HR6.out).mono ?_);rintro e7 w7 ⟨rfl,hb7⟩;have HB7:=hI (stp HB6.out hb7);clear hb7)
       | fail)
      go_roundg (gk - 1)
      case measure=>omega
      case rel=>exact ⟨j+1,xs++sj,by omega,by go_num,rfl,HTK.out,HXZ.out,stp HBW4.out HB7.out⟩
    · obtain rfl:j=kn:=by omega
      have hjj:¬((j:Int)<(j:Int)):=by omega
      have r2:=(HBW.out.cell (p:=⟨b0,_,none⟩) HBB.out).trans HC2.out;rw [Nat.zero_mul,Nat.add_zero] at r2;have hlk:l.take j=l:=List.take_of_length_le (by rw [HKN.out];exact Nat.le_refl _);rw [hlk] at hxs;have hy9:=HYL.out;rw [zAR] at hy9;obtain ⟨hd,hall⟩:=HALL.out;have bn0:(0:Int)<(n:Int):=by have:=HN0.out;omega
      obtain ⟨u1,hu1⟩:∃u1,xs++(⟨#[60,47]⟩:ByteArray)=u1:=⟨_,rfl⟩;obtain ⟨u2,hu2⟩:∃u2,u1++y0=u2:=⟨_,rfl⟩;obtain ⟨tl,htl⟩:∃tl,u2++(⟨#[62]⟩:ByteArray)=tl:=⟨_,rfl⟩;have hy0:=HYL0.out;have s1:u1.size<=xs.size+2:=by rw [←hu1,ByteArray.size_append];exact Nat.le_refl _
      have s2:u2.size<=xs.size+5002:=by rw [←hu2,ByteArray.size_append];omega
      have f1:¬9223372036854775807<xs.size+2:=by omega
      have f2:¬9223372036854775807<u1.size+y0.size:=by omega
      have f3:¬9223372036854775807<u2.size+1:=by omega
      have htl2:tl.data.toList=xs.data.toList++60::47::(m0.name++[62]):=by
       rw [←htl,zBy,←hu2,zBy,←hu1,zBy,HY0.out]
       simp
      have HM:=HM0.out
      by_cases hkz:j=0
      · obtain rfl:=hkz
        rw [if_pos (HM.1 rfl)] at hall;obtain ⟨t1,t2⟩:=zNS (y:=y) (tl:=⟨#[47,62]⟩) (hd:=hd) hall;obtain ⟨k,hk⟩:∃k,y.size - 2=k:=⟨_,rfl⟩;have t1:2<=y.size:=t1;have hkk:(y.size:Int) - 2=(k:Int):=by omega
        have t2:y.extract k y.size=⟨#[47,62]⟩:=by rw [←hk];exact t2
        have b1:(2:Int)<=(y.size:Int):=by omega
        have b2:(y.size:Int)<=16384:=by omega
        have b3:k<=y.size:=by omega
        clear hxs hall htl2 HM hbw hlk hxz s1 s2 hk t1 hz4
        go_wp2_with fail
        go_ret
        exact ⟨rfl,HBW.out⟩
      · rw [if_neg (λh=>hkz (HM.2 h)),←hxs,←htl2] at hall
        obtain ⟨t1,t2⟩:=zNS hall;obtain ⟨k,hk⟩:∃k,y.size - tl.size=k:=⟨_,rfl⟩;have hkk:(y.size:Int) - (tl.size:Int)=(k:Int):=by omega
        rw [hk] at t2;have b1:(tl.size:Int)<=(y.size:Int):=by omega
        have b2:(y.size:Int)<=16384:=by omega
        have b3:k<=y.size:=by omega
        have hj0:¬(j:Int)=0:=by omega
        have hj1:((j:Int)==0)=false:=by simp;exact hkz
        clear hxs hall htl2 HM hbw hlk hxz s1 s2 hk hz4
        go_wp2_with fail
        go_ret
        exact ⟨rfl,HBW.out⟩
end Hx
end Go.Proofs.YtlgppednjkbgiaaGreatDoor
