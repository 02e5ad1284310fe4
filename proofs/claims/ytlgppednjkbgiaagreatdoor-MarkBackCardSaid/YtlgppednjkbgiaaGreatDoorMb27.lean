/-
  The laws MarkBack and MarkCanon, walked.
-/
import Derived.Test.YtlgppednjkbgiaaGreatDoorMb26
set_option maxRecDepth 100000
set_option maxHeartbeats 16000000
set_option linter.unusedVariables false
set_option linter.unusedSimpArgs false
namespace Go.Proofs.YtlgppednjkbgiaaGreatDoor
open Go.RowKit Go.Proofs.Tryz
namespace Hx
open Lx Tr Tx Nmb Es Ns
theorem zRK (A:Option Addr) (n c:Nat) (v:List Nd) (w:World) (hr:RdB NdS w A v) (hn:v.length=n) (hmax:n<=9223372036854775807) (hE:Ev9 w) (hT:TbH w) (hEE:EvE w) :
 Calls prog 8 #[.slice A n c] w λe w'=>e=.returned (.bool true)/\Below w.heap.size w w':=by
 have HR:=hI hr;have HN:=hI hn;have HG:Hid (∀W,Below w.heap.size w W->Calls prog 11 #[.slice A n c,.int .i64 100,.int .i64 5000] W (zCf v 100 5000 W)):=hI λW hW=>zPH A n c v 100 5000 W (hr.on hW) hn (by decide) (by decide) hmax
 clear hr hn hmax
 go_enter func8,ntmps8
 go_upto_region 4 with (first
  | (go_at_call 29;(with_reducible refine (zIP w hE hT hEE).mono ?_);rintro e1 w1 ⟨rfl,hb1⟩;have HB1:=hI hb1;clear hb1)
  | (go_at_call 11;(with_reducible refine (HG.out w1 HB1.out).mono ?_);rintro e2 w2 ⟨qa,rfl,hb2,hqa⟩;have HB2:=hI (stp HB1.out hb2);have HQA:=hI hqa;clear hb2 hqa)
  | fail)
 · go_ret
   exact ⟨rfl,HB2.out⟩
 · obtain rfl:qa=false:=by
    cases qa
    · rfl
    · first | exact absurd rfl (by assumption) | assumption | simp_all
   have hsm:∀m∈v,zAy 5000 m:=λm hm=>((HQA.out rfl).2 m hm).up (by decide)
   have hle:n<=100:=by have:=(HQA.out rfl).1;have:=HN.out;omega
   obtain ⟨y,z,hy⟩:∃(y:ByteArray) (z:Int),zBO v (⟨#[]⟩:ByteArray).data.toList=(y.data.toList,z):=⟨⟨(zBO v []).1.toArray⟩,(zBO v []).2,rfl⟩;have HWR:=hI (zI9 A n c v ⟨#[]⟩ w2 (HR.out.on HB2.out) HN.out (by omega) (λ_ m hm=>(hsm m hm).up (by decide)) (by decide) y z hy (hT.to HB2.out) (hEE.to HB2.out))
   by_cases hz:z=0
   · subst hz
     have hrd:=zFl hy;have hyl:=zFC hy;rw [zAV] at hyl;have HRD:Hid (∀W,Below w.heap.size w W->Calls prog 30 #[.string y] W λe w'=>∃A c,e=.returned (.tuple #[.slice A n c,.int .i64 0])/\RdB NdS w' A v/\Below W.heap.size W w'):=hI λW hW=>zJr y W (by omega) v 0 n hrd HN.out (hE.to hW) (hEE.to hW)
     have HSV:Hid (∀B d W,Below w.heap.size w W->RdB NdS W B v->Calls prog 24 #[.slice B n d,.slice A n c] W λe w'=>e=.returned (.bool true)/\Below W.heap.size W w'):=hI λB d W hW hb=>zPn B A n d n c v v W hb HN.out (HR.out.on hW) HN.out (by omega) (by omega) (λt ht=>by have:=(hsm t ht).attrs;omega) (λt ht=>by have:=(hsm t ht).attrs;omega) true (decide_eq_true rfl)
     clear hy hrd hyl hsm
     go_wp2_with (first
      | (go_at_call 27;(with_reducible refine (HWR.out).mono ?_);rintro e3 w3 ⟨rfl,hb3⟩;have HB3:=hI (stp HB2.out hb3);clear hb3)
      | (go_at_call 30;(with_reducible refine (HRD.out w3 HB3.out).mono ?_);rintro e4 w4 ⟨A4,c4,rfl,hr4,hb4⟩;have HR4:=hI hr4;have HB4:=hI (stp HB3.out hb4);clear hr4 hb4)
      | (go_at_call 24;(with_reducible refine (HSV.out _ _ w4 HB4.out HR4.out).mono ?_);rintro e5 w5 ⟨rfl,hb5⟩;have HB5:=hI (stp HB4.out hb5);clear hb5)
      | fail)
     go_ret
     exact ⟨rfl,HB5.out⟩
   · have fz:(z==0)=false:=by simp;exact hz
     obtain rfl:y=⟨#[]⟩:=zHU (zCo hy hz);clear hy hsm
     go_wp2_with (first
      | (go_at_call 27;(with_reducible refine (HWR.out).mono ?_);rintro e3 w3 ⟨rfl,hb3⟩;have HB3:=hI (stp HB2.out hb3);clear hb3)
      | fail)
     go_ret
     exact ⟨rfl,HB3.out⟩
end Hx
end Go.Proofs.YtlgppednjkbgiaaGreatDoor
