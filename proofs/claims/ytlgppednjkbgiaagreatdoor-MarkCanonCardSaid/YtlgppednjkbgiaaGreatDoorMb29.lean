/-
  The laws MarkBack and MarkCanon, walked.
-/
import Derived.Test.YtlgppednjkbgiaaGreatDoorMb26
set_option maxRecDepth 100000
set_option maxHeartbeats 16000000
set_option linter.unusedVariables false
set_option linter.unusedSimpArgs false
namespace Go.Proofs.YtlgppednjkbgiaaGreatDoor
open Go.RowKit Go.Proofs.Tryz
namespace Hx
open Lx Tr Tx Nmb Es Ns
theorem zOb (s:ByteArray) (w:World) (hs9:s.size<=9223372036854775807) (hE:Ev9 w) (hT:TbH w) (hEE:EvE w) :
 Calls prog 9 #[.string s] w λe w'=>e=.returned (.bool true)/\Below w.heap.size w w':=by
 have HAL:=hI (zIP w hE hT hEE)
 by_cases hs:s.size<=2000
 case neg =>
  have gs:(2000:Int)<(s.size:Int):=by omega
  clear hE hT hEE
  go_enter func9,ntmps9
  go_wp2_with (first
   | (go_at_call 29;(with_reducible refine (HAL.out).mono ?_);rintro e1 w1 ⟨rfl,hb1⟩;have HB1:=hI hb1;clear hb1)
   | fail)
  go_ret
  exact ⟨rfl,HB1.out⟩
 have gs:¬(2000:Int)<(s.size:Int):=by omega
 obtain ⟨x,z,hx⟩:∃(x:ByteArray) (z:Int),zA9 s.data.toList=(x.data.toList,z):=⟨⟨(zA9 s.data.toList).1.toArray⟩,(zA9 s.data.toList).2,rfl⟩;have HCN:Hid (∀W,Below w.heap.size w W->Calls prog 28 #[.string s] W λe w'=>e=.returned (.tuple #[.string x,.int .i64 z])/\Below W.heap.size W w'):=hI λW hW=>zGF s W (by omega) x z hx (hE.to hW) (hT.to hW) (hEE.to hW)
 by_cases hz:z=0
 · subst hz
   obtain ⟨v,hv1,hv2,hv3,hv4⟩:=zOY hx;obtain ⟨n,hn⟩:∃n,v.length=n:=⟨_,rfl⟩;obtain ⟨hl,hsm⟩:=zHG hv1;have hxl:=zFC hv2;rw [zAV] at hxl;have HRS:Hid (∀W,Below w.heap.size w W->Calls prog 30 #[.string s] W λe w'=>∃A c,e=.returned (.tuple #[.slice A n c,.int .i64 0])/\RdB NdS w' A v/\Below W.heap.size W w'):=hI λW hW=>zJr s W (by omega) v 0 n hv1 hn (hE.to hW) (hEE.to hW)
   have HRX:Hid (∀W,Below w.heap.size w W->Calls prog 30 #[.string x] W λe w'=>∃A c,e=.returned (.tuple #[.slice A n c,.int .i64 0])/\RdB NdS w' A v/\Below W.heap.size W w'):=hI λW hW=>zJr x W (by omega) v 0 n hv3 hn (hE.to hW) (hEE.to hW)
   have HIS:Hid (∀W,Below w.heap.size w W->Calls prog 26 #[.string x,.string x] W λe w'=>e=.returned (.bool true)/\Below W.heap.size W w'):=hI λW hW=>is12 x x W (by omega) hv4 (hE.to hW) (hT.to hW) (hEE.to hW)
   have HSV:Hid (∀A c B d W,RdB NdS W A v->RdB NdS W B v->Calls prog 24 #[.slice A n c,.slice B n d] W λe w'=>e=.returned (.bool true)/\Below W.heap.size W w'):=hI λA c B d W ha hb=>zPn A B n c n d v v W ha hn hb hn (by omega) (by omega) (λt ht=>by have:=(hsm t ht).attrs;omega) (λt ht=>by have:=(hsm t ht).attrs;omega) true (decide_eq_true rfl)
   clear hx hv1 hv2 hv3 hv4 hn hl hsm hxl hE hT hEE
   go_enter func9,ntmps9
   go_wp2_with (first
    | (go_at_call 29;(with_reducible refine (HAL.out).mono ?_);rintro e1 w1 ⟨rfl,hb1⟩;have HB1:=hI hb1;clear hb1)
    | (go_at_call 28;(with_reducible refine (HCN.out w1 HB1.out).mono ?_);rintro e2 w2 ⟨rfl,hb2⟩;have HB2:=hI (stp HB1.out hb2);clear hb2)
    | (go_at_call 30;(with_reducible refine (HRS.out w2 HB2.out).mono ?_);rintro e3 w3 ⟨A3,c3,rfl,hr3,hb3⟩;have HR3:=hI hr3;have HB3:=hI (stp HB2.out hb3);clear hr3 hb3)
    | (go_at_call 30;(with_reducible refine (HRX.out w3 HB3.out).mono ?_);rintro e4 w4 ⟨A4,c4,rfl,hr4,hb4⟩;have HR4:=hI hr4;have HR34:=hI (HR3.out.on hb4);have HB4:=hI (stp HB3.out hb4);clear hr4 hb4)
    | (go_at_call 24;(with_reducible refine (HSV.out _ _ _ _ w4 HR34.out HR4.out).mono ?_);rintro e5 w5 ⟨rfl,hb5⟩;have HB5:=hI (stp HB4.out hb5);clear hb5)
    | (go_at_call 26;(with_reducible refine (HIS.out w5 HB5.out).mono ?_);rintro e6 w6 ⟨rfl,hb6⟩;have HB6:=hI (stp HB5.out hb6);clear hb6)
    | fail)
   go_ret
   exact ⟨rfl,HB6.out⟩
 · have fz:(z==0)=false:=by simp;exact hz
   obtain rfl:x=⟨#[]⟩:=zHU (zFG hx hz);clear hx hE hT hEE
   go_enter func9,ntmps9
   go_wp2_with (first
    | (go_at_call 29;(with_reducible refine (HAL.out).mono ?_);rintro e1 w1 ⟨rfl,hb1⟩;have HB1:=hI hb1;clear hb1)
    | (go_at_call 28;(with_reducible refine (HCN.out w1 HB1.out).mono ?_);rintro e2 w2 ⟨rfl,hb2⟩;have HB2:=hI (stp HB1.out hb2);clear hb2)
    | fail)
   go_ret
   exact ⟨rfl,HB2.out⟩
end Hx
end Go.Proofs.YtlgppednjkbgiaaGreatDoor
