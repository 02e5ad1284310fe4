/- Texts put together. -/
import Derived.Test.YtlgppednjkbgiaaGreatDoorMbA
import Derived.Test.YtlgppednjkbgiaaGreatDoorMb16
import Derived.Test.YtlgppednjkbgiaaGreatDoorMb23
import Derived.Handy
import Derived.Test.YtlgppednjkbgiaaGreatDoorMb22
import Derived.Test.YtlgppednjkbgiaaGreatDoorProg
import Derived.WalkKit
import Derived.LaidEql
import Derived.Stop.Asserts
import Derived.RowKitTokens
import Derived.Below
import Derived.Test.YtlgppednjkbgiaaGreatDoorMb02
set_option maxRecDepth 100000
set_option maxHeartbeats 16000000
set_option linter.unusedVariables false
set_option linter.unusedSimpArgs false
namespace Go.Proofs.YtlgppednjkbgiaaGreatDoor
open Go.RowKit Go.Proofs.Tryz
namespace Hx
open Lx Tr Tx Nmb Es Ns
theorem zOU (B:Nat) (s o:ByteArray) (w:World) (hp:TxB B s o w) (hs:s.size<=1000000) (ts:List Tk) (k er:Int) (h:lexR s.data.toList=(ts,k,er)) (hE:Ev9 w:=by first | assumption | exact Ev9.to (by assumption) (by assumption)) :
 Calls prog 66 #[.pointer (some ⟨B,0,none⟩)] w λe w'=>e=.returned (errV er)/\TkB B o ts w'∧w.grownBy w' (some B):=by
 obtain ⟨a,n,c,a1,n1,c1,hp⟩:=hp;obtain ⟨tn,htn⟩:∃tn,ts.length=tn:=⟨_,rfl⟩;have HTN:=hI htn;have HC:Hid (Calls prog 103 #[.string s] w λe w'=>∃A c,e=.returned (.tuple #[.slice A tn c,.int .i64 k,.int .i64 er])/\TkIn ts A c w'∧Below w.heap.size w w'):=hI (by rw [←htn];exact lex9 s w hs ts k er h);have HP:=hI hp;have k0:=zAA w B 0 _ _ _ hp;have k1:=zAA w B 1 _ _ _ hp;have k2:=zAA w B 2 _ _ _ hp;have k3:=zAA w B 3 _ _ _ hp;have hB:=zAY hp;have HF:Hid (∀W:World,Calls prog 100 #[.int .i64 er] W λe w'=>e=.returned (errV er)/\w'=W):=hI λW=>zD4 er W
 obtain ⟨ev,hev⟩:∃ev,errV er=ev:=⟨_,rfl⟩;rw [hev] at HF ⊢;clear hs h hE htn hp hev
 go_enter func66,ntmps66
 go_wp2_with (first
  | (go_at_call 103;(with_reducible refine (HC.out).mono ?_);rintro e1 w1 ⟨A2,c2,rfl,hi,hb1⟩;have HP1:=hI (HP.out.on hb1);have HB1:=hI hb1;have HI:=hI hi.1;clear hi;have q1:=zAA w1 B 1 _ _ _ HP1.out;have f1:=zAZ w1 B 1 _ _ HP1.out;clear hb1)
  | (go_at_call 100;(with_reducible refine (HF.out _).mono ?_);rintro e2 w2 ⟨rfl,rfl⟩)
  | fail)
 first | go_ret | go_returns
 exact ⟨rfl,⟨s,A2,c2,a1,n1,c1,by rw [HTN.out];exact HP1.out.set1 A2 tn c2,HP1.out.tks HI.out (But.set _ _ _ _)⟩,zFh HB1.out B 1 _⟩
theorem zGH (B:Nat) (o:ByteArray) (ts:List Tk) (w:World) (hp:TkB B o ts w) (hl:ts.length<=512) (hs:∀t∈ts,zCr t) (v:List Nd) (q:Int) (h:zBE ts=(v,q)) :
 Calls prog 67 #[.pointer (some ⟨B,0,none⟩)] w λe w'=>e=.returned (errV q)/\TrB B o v w'∧w.grownBy w' (some B):=by
 obtain ⟨s,A,c,a1,n1,c1,hp,hr⟩:=hp;obtain ⟨tn,htn⟩:∃tn,ts.length=tn:=⟨_,rfl⟩;obtain ⟨vn,hvn⟩:∃vn,v.length=vn:=⟨_,rfl⟩;have HVN:=hI hvn;rw [htn] at hp;have HC:Hid (Calls prog 104 #[.slice A tn c] w λe w'=>∃A c,e=.returned (.tuple #[.slice A vn c,.int .i64 q])/\RdB NdS w' A v/\Below w.heap.size w w'):=hI ((zQP A tn c ts w hr htn (by omega) hs).mono λe w' h2=>by obtain ⟨A,c,h3,h4,_,_,_,h5⟩:=h2.with h hvn;exact ⟨A,c,h3,h4,h5⟩);have HP:=hI hp;have k0:=zAA w B 0 _ _ _ hp;have k1:=zAA w B 1 _ _ _ hp;have k2:=zAA w B 2 _ _ _ hp;have k3:=zAA w B 3 _ _ _ hp;have hB:=zAY hp;have HF:Hid (∀W:World,Calls prog 100 #[.int .i64 q] W λe w'=>e=.returned (errV q)/\w'=W):=hI λW=>zD4 q W
 obtain ⟨ev,hev⟩:∃ev,errV q=ev:=⟨_,rfl⟩;rw [hev] at HF ⊢;clear hr hl hs h htn hvn hp hev
 go_enter func67,ntmps67
 go_wp2_with (first
  | (go_at_call 104;(with_reducible refine (HC.out).mono ?_);rintro e1 w1 ⟨A2,c2,rfl,hi,hb1⟩;have HP1:=hI (HP.out.on hb1);have HB1:=hI hb1;have HI:=hI hi;clear hi;have q2:=zAA w1 B 2 _ _ _ HP1.out;have f2:=zAZ w1 B 2 _ _ HP1.out;clear hb1)
  | (go_at_call 100;(with_reducible refine (HF.out _).mono ?_);rintro e2 w2 ⟨rfl,rfl⟩)
  | fail)
 first | go_ret | go_returns
 exact ⟨rfl,⟨s,A,tn,c,A2,c2,by rw [HVN.out];exact HP1.out.set2 A2 vn c2,HP1.out.nds HI.out (But.set _ _ _ _)⟩,zFh HB1.out B 2 _⟩
theorem zDW (B:Nat) (o:ByteArray) (v:List Nd) (w:World) (hp:TrB B o v w) (hl:v.length<=512) (hs:∀m∈v,zAy 900000 m) (u:List Nd) (z:Int) (h:zA5 v=(u,z)) :
 Calls prog 68 #[.pointer (some ⟨B,0,none⟩)] w λe w'=>e=.returned (errV z)/\TrB B o u w'∧w.grownBy w' (some B):=by
 obtain ⟨s,a,n,c1,A,c,hp,hr⟩:=hp;obtain ⟨tn,htn⟩:∃tn,v.length=tn:=⟨_,rfl⟩;obtain ⟨vn,hvn⟩:∃vn,u.length=vn:=⟨_,rfl⟩;have HVN:=hI hvn;rw [htn] at hp;have HC:Hid (Calls prog 13 #[.slice A tn c] w λe w'=>∃A c,e=.returned (.tuple #[.slice A vn c,.int .i64 z])/\RdB NdS w' A u/\Below w.heap.size w w'):=hI ((zKd A tn c v w hr htn (by omega) (λ_ m hm=>(hs m hm).up (by decide)) u z h).mono λe w' h2=>h2.with hvn);have HP:=hI hp;have k0:=zAA w B 0 _ _ _ hp;have k1:=zAA w B 1 _ _ _ hp;have k2:=zAA w B 2 _ _ _ hp;have k3:=zAA w B 3 _ _ _ hp;have hB:=zAY hp;have HF:Hid (∀W:World,Calls prog 100 #[.int .i64 z] W λe w'=>e=.returned (errV z)/\w'=W):=hI λW=>zD4 z W
 obtain ⟨ev,hev⟩:∃ev,errV z=ev:=⟨_,rfl⟩;rw [hev] at HF ⊢;clear hr hl hs h htn hvn hp hev
 go_enter func68,ntmps68
 go_wp2_with (first
  | (go_at_call 13;(with_reducible refine (HC.out).mono ?_);rintro e1 w1 ⟨A2,c2,rfl,hi,hb1⟩;have HP1:=hI (HP.out.on hb1);have HB1:=hI hb1;have HI:=hI hi;clear hi;have q2:=zAA w1 B 2 _ _ _ HP1.out;have f2:=zAZ w1 B 2 _ _ HP1.out;clear hb1)
  | (go_at_call 100;(with_reducible refine (HF.out _).mono ?_);rintro e2 w2 ⟨rfl,rfl⟩)
  | fail)
 first | go_ret | go_returns
 exact ⟨rfl,⟨s,a,n,c1,A2,c2,by rw [HVN.out];exact HP1.out.set2 A2 vn c2,HP1.out.nds HI.out (But.set _ _ _ _)⟩,zFh HB1.out B 2 _⟩
theorem zJy (B:Nat) (o:ByteArray) (v:List Nd) (w:World) (hp:TrB B o v w) (hl:v.length<=9223372036854775807) (hs:v.length<=512->∀m∈v,zAy 900000 m) (ho:o.size<=1000000) (u:List Nd) (z:Int) (h:zCS v o.data.toList=(u,z)) (hT:TbH w:=by first | assumption | exact TbH.to (by assumption) (by assumption)) :
 Calls prog 63 #[.pointer (some ⟨B,0,none⟩)] w λe w'=>e=.returned (errV z)/\TrB B o u w'∧w.grownBy w' (some B):=by
 obtain ⟨s,a,n,c1,A,c,hp,hr⟩:=hp;obtain ⟨tn,htn⟩:∃tn,v.length=tn:=⟨_,rfl⟩;obtain ⟨vn,hvn⟩:∃vn,u.length=vn:=⟨_,rfl⟩;have HVN:=hI hvn;rw [htn] at hp;have HC:Hid (∀W,Below w.heap.size w W->Calls prog 15 #[.slice A tn c,.string o] W λe w'=>∃A c,e=.returned (.tuple #[.slice A vn c,.int .i64 z])/\RdB NdS w' A u/\Below W.heap.size W w'):=hI λW hW=>((zQQ A tn c v o W (hr.on hW) htn (by omega) (λh5=>hs (by omega)) ho (hT.to hW) u z h).mono λe w' h2=>h2.with hvn)
 have HKP:Hid (∀W,Below w.heap.size w W->W.cell? ⟨B,2,none⟩=some (.slice A tn c)/\W.cell? ⟨B,3,none⟩=some (.string o)):=hI λW hW=>⟨zAA W B 2 _ _ _ (hp.on hW),zAA W B 3 _ _ _ (hp.on hW)⟩
 have HP:=hI hp;have k0:=zAA w B 0 _ _ _ hp;have k1:=zAA w B 1 _ _ _ hp;have k2:=zAA w B 2 _ _ _ hp;have k3:=zAA w B 3 _ _ _ hp;have hB:=zAY hp;have HF:Hid (∀W:World,Calls prog 100 #[.int .i64 z] W λe w'=>e=.returned (errV z)/\w'=W):=hI λW=>zD4 z W
 obtain ⟨ev,hev⟩:∃ev,errV z=ev:=⟨_,rfl⟩;rw [hev] at HF ⊢;clear hr hl hs h htn hvn hT ho hp hev
 go_enter func63,ntmps63
 go_wp2_with fail
 go_region_held3 (λW=>W.cell? ⟨B,2,none⟩=some (.slice A tn c)/\W.cell? ⟨B,3,none⟩=some (.string o))
  (first | exact HKP.out _ (Below.refl _ _).drew | exact HKP.out _ (stp (Below.refl _ _).drew hb1))
  ((go_at_call 15;(with_reducible refine (HC.out _ (Below.refl _ _).drew).mono ?_);rintro e1 w1 ⟨A2,c2,rfl,hi,hb1⟩))
 have hb1:=stp (Below.refl _ _).drew hb1;have HP1:=hI (HP.out.on hb1);have HB1:=hI hb1;have HI:=hI hi;have q2:=zAA w1 B 2 _ _ _ HP1.out;have f2:=zAZ w1 B 2 _ _ HP1.out;clear hb1 hi
 go_wp2_with (first
  | (go_at_call 100;(with_reducible refine (HF.out _).mono ?_);rintro e2 w2 ⟨rfl,rfl⟩)
  | fail)
 first | go_ret | go_returns
 exact ⟨rfl,⟨s,a,n,c1,A2,c2,by rw [HVN.out];exact HP1.out.set2 A2 vn c2,HP1.out.nds HI.out (But.set _ _ _ _)⟩,zFh HB1.out B 2 _⟩
theorem zGD (B:Nat) (o:ByteArray) (v:List Nd) (w:World) (hp:TrB B o v w) (hl:v.length<=9223372036854775807) (hs:v.length<=512->∀m∈v,zAW m) (ts:List Tk) (z:Int) (h:zA1 v=(ts,z)) :
 Calls prog 64 #[.pointer (some ⟨B,0,none⟩)] w λe w'=>e=.returned (errV z)/\TkB B o ts w'∧w.grownBy w' (some B):=by
 obtain ⟨s,a,n,c1,A,c,hp,hr⟩:=hp;obtain ⟨tn,htn⟩:∃tn,v.length=tn:=⟨_,rfl⟩;obtain ⟨vn,hvn⟩:∃vn,ts.length=vn:=⟨_,rfl⟩;have HVN:=hI hvn;rw [htn] at hp;have HC:Hid (Calls prog 101 #[.slice A tn c] w λe w'=>∃A c,e=.returned (.tuple #[.slice A vn c,.int .i64 z])/\RdC TkC w' w'.heap.size A ts/\Below w.heap.size w w'):=hI ((zOV A tn c v w hr htn (by omega) (λh5=>hs (by omega))).mono λe w' h2=>h2.with2 h hvn);have HP:=hI hp;have k0:=zAA w B 0 _ _ _ hp;have k1:=zAA w B 1 _ _ _ hp;have k2:=zAA w B 2 _ _ _ hp;have k3:=zAA w B 3 _ _ _ hp;have hB:=zAY hp;have HF:Hid (∀W:World,Calls prog 100 #[.int .i64 z] W λe w'=>e=.returned (errV z)/\w'=W):=hI λW=>zD4 z W
 obtain ⟨ev,hev⟩:∃ev,errV z=ev:=⟨_,rfl⟩;rw [hev] at HF ⊢;clear hr hl hs h htn hvn hp hev
 go_enter func64,ntmps64
 go_wp2_with (first
  | (go_at_call 101;(with_reducible refine (HC.out).mono ?_);rintro e1 w1 ⟨A2,c2,rfl,hi,hb1⟩;have HP1:=hI (HP.out.on hb1);have HB1:=hI hb1;have HI:=hI hi;clear hi;have q1:=zAA w1 B 1 _ _ _ HP1.out;have f1:=zAZ w1 B 1 _ _ HP1.out;clear hb1)
  | (go_at_call 100;(with_reducible refine (HF.out _).mono ?_);rintro e2 w2 ⟨rfl,rfl⟩)
  | fail)
 first | go_ret | go_returns
 exact ⟨rfl,⟨s,A2,c2,A,tn,c,by rw [HVN.out];exact HP1.out.set1 A2 vn c2,HP1.out.tks HI.out (But.set _ _ _ _)⟩,zFh HB1.out B 1 _⟩
theorem zJu (B:Nat) (o:ByteArray) (ts:List Tk) (w:World) (hp:TkB B o ts w) (hl:ts.length<=512) (hs:∀t∈ts,zCr t) (x:ByteArray) (z:Int) (h:zDH ts=(x.data.toList,z)) :
 Calls prog 65 #[.pointer (some ⟨B,0,none⟩)] w λe w'=>e=.returned (errV z)/\TxB B x o w'∧w.grownBy w' (some B):=by
 obtain ⟨s,A,c,a1,n1,c1,hp,hr⟩:=hp;obtain ⟨tn,htn⟩:∃tn,ts.length=tn:=⟨_,rfl⟩;rw [htn] at hp;have HC:Hid (Calls prog 102 #[.slice A tn c] w λe w'=>e=.returned (.tuple #[.string x,.int .i64 z])/\Below w.heap.size w w'):=hI (zSf A tn c ts w hr htn (by omega) hs x z h);have HP:=hI hp;have k0:=zAA w B 0 _ _ _ hp;have k1:=zAA w B 1 _ _ _ hp;have k2:=zAA w B 2 _ _ _ hp;have k3:=zAA w B 3 _ _ _ hp;have hB:=zAY hp;have HF:Hid (∀W:World,Calls prog 100 #[.int .i64 z] W λe w'=>e=.returned (errV z)/\w'=W):=hI λW=>zD4 z W
 obtain ⟨ev,hev⟩:∃ev,errV z=ev:=⟨_,rfl⟩;rw [hev] at HF ⊢;clear hr hl hs h htn hp hev
 go_enter func65,ntmps65
 go_wp2_with (first
  | (go_at_call 102;(with_reducible refine (HC.out).mono ?_);rintro e1 w1 ⟨rfl,hb1⟩;have HP1:=hI (HP.out.on hb1);have HB1:=hI hb1;have q0:=zAA w1 B 0 _ _ _ HP1.out;have f0:=zAZ w1 B 0 _ _ HP1.out;clear hb1)
  | (go_at_call 100;(with_reducible refine (HF.out _).mono ?_);rintro e2 w2 ⟨rfl,rfl⟩)
  | fail)
 first | go_ret | go_returns
 exact ⟨rfl,⟨A,tn,c,a1,n1,c1,HP1.out.set0 x⟩,zFh HB1.out B 0 _⟩
end Hx
namespace Hx
open Lx Tr Tx Nmb Es
def AtV (x y z:ByteArray):Value:=.agg #[.string x,.string y,.string z]
theorem zOx (x y z x1 y1 z1:ByteArray) (w:World) (q:Bool) (h:decide (x=x1/\y=y1/\z=z1)=q) :
 Calls prog 61 #[AtV x y z,AtV x1 y1 z1] w λe w'=>e=.returned (.bool q)/\Below w.heap.size w w':=by
 unfold AtV
 by_cases hxy:x=x1/\y=y1/\z=z1
 · obtain rfl:true=q:=by rw [←h,decide_eq_true hxy]
   obtain ⟨rfl,rfl,rfl⟩:=hxy;clear h
   go_enter func61,ntmps61
   go_wp2_with fail
   go_ret
   exact ⟨rfl,stpA (stpA (Below.refl _ _) _) _⟩
 · obtain rfl:false=q:=by rw [←h,decide_eq_false hxy]
   have hq:(x.toList==x1.toList)=false∨(y.toList==y1.toList)=false∨(z.toList==z1.toList)=false:=by
    rw [zKU,zKU,zKU];simp only [decide_eq_false_iff_not]
    by_cases h5:x=x1
    · by_cases h6:y=y1
      · exact .inr (.inr λe=>hxy ⟨h5,h6,ba_x e⟩)
      · exact .inr (.inl λe=>h6 (ba_x e))
    · exact .inl λe=>h5 (ba_x e)
   clear h hxy;rcases hq with q1 | q1 | q1
   · have q2:¬x.toList=x1.toList:=by simpa using q1
     go_enter func61,ntmps61
     go_wp2_with fail
     go_ret
     exact ⟨rfl,stpA (stpA (Below.refl _ _) _) _⟩
   · have q2:¬y.toList=y1.toList:=by simpa using q1
     go_enter func61,ntmps61
     go_wp2_with fail
     go_ret
     exact ⟨rfl,stpA (stpA (Below.refl _ _) _) _⟩
   · have q2:¬z.toList=z1.toList:=by simpa using q1
     go_enter func61,ntmps61
     go_wp2_with fail
     go_ret
     exact ⟨rfl,stpA (stpA (Below.refl _ _) _) _⟩
theorem zSG (A A2:Option Addr) (n cp n2 cp2:Nat) (l l2:List At) (w:World) (hr:RdB AtS w A l) (hn:l.length=n) (hr2:RdB AtS w A2 l2) (hn2:l2.length=n2) (hm:n<=1000000) (hm2:n2<=1000000) (q:Bool) (h:decide (l=l2)=q) :
 Calls prog 60 #[.slice A n cp,.slice A2 n2 cp2,.func (.func 61) #[] #[]] w λe w'=>e=.returned (.bool q)/\Below w.heap.size w w':=by
 have HR:=hI hr;have HN:=hI hn;have HR2:=hI hr2;have HN2:=hI hn2;have HM:=hI hm;have HH:=hI h;clear hr hn hr2 hn2 h
 by_cases hne:n=n2
 · subst hne
   have f0:((n:Int) != (n:Int))=false:=by simp
   go_enter func60,ntmps60
   go_wp2_with fail
   go_loopg [7,15] n (λgg x7 i wr=>∃k:Nat,k+gg=n/\i=.int .i64 k/\l.take k=l2.take k/\Below w.heap.size w wr)
   case atStart=>exact ⟨0,by omega,rfl,rfl,Below.refl _ _⟩
   case round =>
    obtain ⟨k,hkg,rfl,hno,hbw⟩:=hrel;have hm:=HM.out;have HBW:=hI hbw
    by_cases hlt:k<n
    · have hk1:k<l.length:=by rw [HN.out];exact hlt
      have hk2:k<l2.length:=by rw [HN2.out];exact hlt
      obtain ⟨b0,off,x,y,z,rfl,hbB,hx,hy,hz,c0,c1,c2⟩:=at3 (HR.out.on hbw) hk1;obtain ⟨b1,of1,x1,y1,z1,rfl,hbB1,hx1,hy1,hz1,d0,d1,d2⟩:=at3 (HR2.out.on hbw) hk2;have bk:(0:Int)<=(k:Int)/\(k:Int)<(n:Int):=by omega
      have HK:Hid (∀W,Below wr.heap.size wr W->W.cell? ⟨b0,off+k*3,none⟩=some (.string x)/\W.cell? ⟨b0,off+k*3+1,none⟩=some (.string y)/\W.cell? ⟨b0,off+k*3+2,none⟩=some (.string z)/\W.cell? ⟨b1,of1+k*3,none⟩=some (.string x1)/\W.cell? ⟨b1,of1+k*3+1,none⟩=some (.string y1)/\W.cell? ⟨b1,of1+k*3+2,none⟩=some (.string z1)):=hI λW hW =>
       ⟨(hW.cell (p:=⟨b0,_,none⟩) hbB).trans c0,(hW.cell (p:=⟨b0,_,none⟩) hbB).trans c1,(hW.cell (p:=⟨b0,_,none⟩) hbB).trans c2,(hW.cell (p:=⟨b1,_,none⟩) hbB1).trans d0,(hW.cell (p:=⟨b1,_,none⟩) hbB1).trans d1,(hW.cell (p:=⟨b1,_,none⟩) hbB1).trans d2⟩
      have HC:Hid (∀qq W,decide (x=x1/\y=y1/\z=z1)=qq->Calls prog 61 #[.agg #[.string x,.string y,.string z],.agg #[.string x1,.string y1,.string z1]] W λe w'=>e=.returned (.bool qq)/\Below W.heap.size W w'):=hI λqq W hq=>zOx x y z x1 y1 z1 W qq hq
      clear hbw hbB hbB1
      by_cases hxy:x=x1/\y=y1/\z=z1
      · have HC2:Hid _:=hI λW=>HC.out true W (decide_eq_true hxy)
        have HT:Hid (l.take (k+1)=l2.take (k+1)):=hI (zIC hk1 hk2 hno (zSc (by rw [←hx,←hx1,hxy.1]) (by rw [←hy,←hy1,hxy.2.1]) (by rw [←hz,←hz1,hxy.2.2])));clear HC hx hx1 hy hy1 hz hz1 hno hxy
        go_wp2_with fail
        clear c0 c1 c2 d0 d1 d2
        go_region_held3 (λW=>W.cell? ⟨b0,off+k*3,none⟩=some (.string x)/\W.cell? ⟨b0,off+k*3+1,none⟩=some (.string y)/\W.cell? ⟨b0,off+k*3+2,none⟩=some (.string z)/\W.cell? ⟨b1,of1+k*3,none⟩=some (.string x1)/\W.cell? ⟨b1,of1+k*3+1,none⟩=some (.string y1)/\W.cell? ⟨b1,of1+k*3+2,none⟩=some (.string z1))
         (first | exact HK.out _ (Below.refl _ _).drew | exact HK.out _ (stp (Below.refl _ _).drew hb1))
         ((go_at_call 61;(with_reducible refine (HC2.out _).mono ?_);rintro e1 w1 ⟨rfl,hb1⟩))
        go_wp2_with fail
        go_roundg (gk - 1)
        case measure=>omega
        case rel=>exact ⟨k+1,by omega,by go_num,HT.out,stp HBW.out.drew hb1⟩
      · have HC2:Hid _:=hI λW=>HC.out false W (decide_eq_false hxy)
        obtain rfl:false=q:=by
         rw [←HH.out,eq_comm,decide_eq_false_iff_not];refine zRu hk1 hk2 λe=>hxy ⟨ba_x ?_,ba_x ?_,ba_x ?_⟩
         · rw [hx,hx1,e]
         · rw [hy,hy1,e]
         · rw [hz,hz1,e]
        clear HC hx hx1 hy hy1 hz hz1 hno hxy
        go_wp2_with fail
        clear c0 c1 c2 d0 d1 d2
        go_region_held3 (λW=>W.cell? ⟨b0,off+k*3,none⟩=some (.string x)/\W.cell? ⟨b0,off+k*3+1,none⟩=some (.string y)/\W.cell? ⟨b0,off+k*3+2,none⟩=some (.string z)/\W.cell? ⟨b1,of1+k*3,none⟩=some (.string x1)/\W.cell? ⟨b1,of1+k*3+1,none⟩=some (.string y1)/\W.cell? ⟨b1,of1+k*3+2,none⟩=some (.string z1))
         (first | exact HK.out _ (Below.refl _ _).drew | exact HK.out _ (stp (Below.refl _ _).drew hb1))
         ((go_at_call 61;(with_reducible refine (HC2.out _).mono ?_);rintro e1 w1 ⟨rfl,hb1⟩))
        go_wp2_with fail
        go_ret
        exact ⟨rfl,stp HBW.out.drew hb1⟩
    · obtain rfl:k=n:=by omega
      obtain rfl:true=q:=by
       rw [←HH.out,eq_comm,decide_eq_true_eq]
       rwa [List.take_of_length_le (by rw [HN.out];exact Nat.le_refl _),List.take_of_length_le (by rw [HN2.out];exact Nat.le_refl _)] at hno
      clear hno
      go_wp2_with fail
      go_ret
      exact ⟨rfl,HBW.out⟩
 · have d0:((n:Int) != (n2:Int))=true:=by simp;omega
   have d1:(n != n2)=true:=by simpa using hne
   have d2:(n==n2)=false:=by simpa using hne
   obtain rfl:false=q:=by
    rw [←HH.out,eq_comm,decide_eq_false_iff_not];rintro rfl;exact hne (HN.out.symm.trans HN2.out)
   clear hne
   go_enter func60,ntmps60
   go_wp2_with fail
   go_ret
   exact ⟨rfl,Below.refl _ _⟩
theorem zNj (w:World) (cs0 cs1:Array Value) (T:TypeId):∀w1,Below ((w.alloc (.cells cs0 T)).alloc (.cells cs1 T)).heap.size ((w.alloc (.cells cs0 T)).alloc (.cells cs1 T)) w1 →
 w1.heap[w.heap.size]?=some (.cells cs0 T (0,0))/\w1.heap[w.heap.size+1]?=some (.cells cs1 T (0,0))/\Below w.heap.size w w1:=by
 intro w1 hb;have h0:=heap_alloc_new w (.cells cs0 T);have h1:=heap_alloc_new (w.alloc (.cells cs0 T)) (.cells cs1 T);rw [World.size_alloc] at h1;exact ⟨zAB (zAB h0 (stpA (Below.refl _ _) _)) hb,zAB h1 hb,stp (stpA (stpA (Below.refl w.heap.size w) _) _) hb⟩
theorem zN0 (nd nd':Nd) (x0 y0 z0 x1 y1 z1:ByteArray) (A0 A1:Option Addr) (c0 c1:Nat) (w:World) (h0:NdAt nd x0 y0 z0 A0 c0 w) (h1:NdAt nd' x1 y1 z1 A1 c1 w) (ha0:nd.attrs.length<=1000000) (ha1:nd'.attrs.length<=1000000) (q:Bool) (h:decide (nd=nd')=q) :
 Calls prog 59 #[NdV nd x0 y0 z0 A0 c0,NdV nd' x1 y1 z1 A1 c1] w λe w'=>e=.returned (.bool q)/\Below w.heap.size w w':=by
 unfold NdV;obtain ⟨qa,hqa⟩:∃qa,decide (nd.attrs=nd'.attrs)=qa:=⟨_,rfl⟩;have hrA:∀W,Below w.heap.size w W->RdB AtS W A0 nd.attrs/\RdB AtS W A1 nd'.attrs:=λW hW=>⟨(h0.on hW).rd,(h1.on hW).rd⟩
 have hbx:=zNj w #[.int .u8 (nd.kind:Int),.string x0,.string y0,.slice A0 nd.attrs.length c0,.string z0,.int .i64 nd.many] #[.int .u8 (nd'.kind:Int),.string x1,.string y1,.slice A1 nd'.attrs.length c1,.string z1,.int .i64 nd'.many] 42;have hr2:=hrA _ (stpA (stpA (Below.refl w.heap.size w) (.cells #[.int .u8 (nd.kind:Int),.string x0,.string y0,.slice A0 nd.attrs.length c0,.string z0,.int .i64 nd.many] 42)) (.cells #[.int .u8 (nd'.kind:Int),.string x1,.string y1,.slice A1 nd'.attrs.length c1,.string z1,.int .i64 nd'.many] 42));have hs:=zSG A0 A1 _ c0 _ c1 nd.attrs nd'.attrs _ hr2.1 rfl hr2.2 rfl ha0 ha1 qa hqa;clear hr2;obtain ⟨kd0,hk0⟩:∃kd0,nd.kind=kd0:=⟨_,rfl⟩;obtain ⟨kd1,hk1⟩:∃kd1,nd'.kind=kd1:=⟨_,rfl⟩;obtain ⟨n0,hn0⟩:∃n0,nd.attrs.length=n0:=⟨_,rfl⟩;obtain ⟨n1,hn1⟩:∃n1,nd'.attrs.length=n1:=⟨_,rfl⟩;obtain ⟨m0,hm0⟩:∃m0,nd.many=m0:=⟨_,rfl⟩;obtain ⟨m1,hm1⟩:∃m1,nd'.many=m1:=⟨_,rfl⟩;have e1:=h0.space;have e2:=h0.name;have e3:=h0.text;have g1:=h1.space;have g2:=h1.name;have g3:=h1.text;rw [hk0,hk1,hn0,hn1,hm0,hm1] at hs hbx;rw [hk0,hk1,hn0,hn1,hm0,hm1];have HS:=hI hs;have HBX:=hI hbx
 have hall:nd=nd'↔qa=true/\kd0=kd1/\x0=x1/\y0=y1/\z0=z1/\m0=m1:=by
  rw [←hqa,decide_eq_true_eq]
  constructor
  · intro e
    rw [e] at hk0 hm0 e1 e2 e3;exact ⟨by rw [e],hk0.symm.trans hk1,ba_x (e1.trans g1.symm),ba_x (e2.trans g2.symm),ba_x (e3.trans g3.symm),hm0.symm.trans hm1⟩
  · rintro ⟨k0,k1,k2,k3,k4,k5⟩
    exact zSa (hk0.trans (k1.trans hk1.symm)) (e1.symm.trans ((congrArg (λb:ByteArray=>b.data.toList) k2).trans g1)) (e2.symm.trans ((congrArg (λb:ByteArray=>b.data.toList) k3).trans g2)) k0 (e3.symm.trans ((congrArg (λb:ByteArray=>b.data.toList) k4).trans g3)) (hm0.trans (k5.trans hm1.symm))
 have hq:q=decide (qa=true/\kd0=kd1/\x0=x1/\y0=y1/\z0=z1/\m0=m1):=by rw [←h,decide_eq_decide];exact hall
 clear hall hs hbx hrA h h0 h1 ha0 ha1 hqa hk0 hk1 hn0 hn1 hm0 hm1 e1 e2 e3 g1 g2 g3
 by_cases p0:qa=true
 case neg =>
  obtain rfl:q=false:=by rw [hq];exact decide_eq_false λe=>p0 e.1
  clear hq;obtain rfl:qa=false:=by simpa using p0
  go_enter func59,ntmps59
  go_wp2_with (first
   | (go_at_call 60;(with_reducible refine (HS.out).mono ?_);rintro e1 w1 ⟨rfl,hb1⟩;have hbx:=HBX.out w1 hb1;have HB1:Hid (Below w.heap.size w w1):=hI hbx.2.2;have c0:=zAA w1 _ 0 _ _ _ hbx.1;have c1:=zAA w1 _ 1 _ _ _ hbx.1;have c2:=zAA w1 _ 2 _ _ _ hbx.1;have c4:=zAA w1 _ 4 _ _ _ hbx.1;have c5:=zAA w1 _ 5 _ _ _ hbx.1;have d0:=zAA w1 _ 0 _ _ _ hbx.2.1;have d1:=zAA w1 _ 1 _ _ _ hbx.2.1;have d2:=zAA w1 _ 2 _ _ _ hbx.2.1;have d4:=zAA w1 _ 4 _ _ _ hbx.2.1;have d5:=zAA w1 _ 5 _ _ _ hbx.2.1;clear hbx hb1)
   | fail)
  go_ret
  exact ⟨rfl,HB1.out⟩
 subst p0
 by_cases p1:kd0=kd1
 case neg =>
  obtain rfl:q=false:=by rw [hq];exact decide_eq_false λe=>p1 e.2.1
  clear hq;have f1:((kd0:Int)==(kd1:Int))=false:=by simp;omega
  have f2:¬(kd0:Int)=(kd1:Int):=by omega
  have f3:(kd0==kd1)=false:=by simpa using p1
  go_enter func59,ntmps59
  go_wp2_with (first
   | (go_at_call 60;(with_reducible refine (HS.out).mono ?_);rintro e1 w1 ⟨rfl,hb1⟩;have hbx:=HBX.out w1 hb1;have HB1:Hid (Below w.heap.size w w1):=hI hbx.2.2;have c0:=zAA w1 _ 0 _ _ _ hbx.1;have c1:=zAA w1 _ 1 _ _ _ hbx.1;have c2:=zAA w1 _ 2 _ _ _ hbx.1;have c4:=zAA w1 _ 4 _ _ _ hbx.1;have c5:=zAA w1 _ 5 _ _ _ hbx.1;have d0:=zAA w1 _ 0 _ _ _ hbx.2.1;have d1:=zAA w1 _ 1 _ _ _ hbx.2.1;have d2:=zAA w1 _ 2 _ _ _ hbx.2.1;have d4:=zAA w1 _ 4 _ _ _ hbx.2.1;have d5:=zAA w1 _ 5 _ _ _ hbx.2.1;clear hbx hb1)
   | fail)
  go_ret
  exact ⟨rfl,HB1.out⟩
 subst p1
 by_cases p2:x0=x1
 case neg =>
  obtain rfl:q=false:=by rw [hq];exact decide_eq_false λe=>p2 e.2.2.1
  clear hq;have f1:(x0.toList==x1.toList)=false:=by rw [zKU,decide_eq_false_iff_not];exact λe=>p2 (ba_x e)
  have f2:¬x0.toList=x1.toList:=by simpa using f1
  go_enter func59,ntmps59
  go_wp2_with (first
   | (go_at_call 60;(with_reducible refine (HS.out).mono ?_);rintro e1 w1 ⟨rfl,hb1⟩;have hbx:=HBX.out w1 hb1;have HB1:Hid (Below w.heap.size w w1):=hI hbx.2.2;have c0:=zAA w1 _ 0 _ _ _ hbx.1;have c1:=zAA w1 _ 1 _ _ _ hbx.1;have c2:=zAA w1 _ 2 _ _ _ hbx.1;have c4:=zAA w1 _ 4 _ _ _ hbx.1;have c5:=zAA w1 _ 5 _ _ _ hbx.1;have d0:=zAA w1 _ 0 _ _ _ hbx.2.1;have d1:=zAA w1 _ 1 _ _ _ hbx.2.1;have d2:=zAA w1 _ 2 _ _ _ hbx.2.1;have d4:=zAA w1 _ 4 _ _ _ hbx.2.1;have d5:=zAA w1 _ 5 _ _ _ hbx.2.1;clear hbx hb1)
   | fail)
  go_ret
  exact ⟨rfl,HB1.out⟩
 subst p2
 by_cases p3:y0=y1
 case neg =>
  obtain rfl:q=false:=by rw [hq];exact decide_eq_false λe=>p3 e.2.2.2.1
  clear hq;have f1:(y0.toList==y1.toList)=false:=by rw [zKU,decide_eq_false_iff_not];exact λe=>p3 (ba_x e)
  have f2:¬y0.toList=y1.toList:=by simpa using f1
  go_enter func59,ntmps59
  go_wp2_with (first
   | (go_at_call 60;(with_reducible refine (HS.out).mono ?_);rintro e1 w1 ⟨rfl,hb1⟩;have hbx:=HBX.out w1 hb1;have HB1:Hid (Below w.heap.size w w1):=hI hbx.2.2;have c0:=zAA w1 _ 0 _ _ _ hbx.1;have c1:=zAA w1 _ 1 _ _ _ hbx.1;have c2:=zAA w1 _ 2 _ _ _ hbx.1;have c4:=zAA w1 _ 4 _ _ _ hbx.1;have c5:=zAA w1 _ 5 _ _ _ hbx.1;have d0:=zAA w1 _ 0 _ _ _ hbx.2.1;have d1:=zAA w1 _ 1 _ _ _ hbx.2.1;have d2:=zAA w1 _ 2 _ _ _ hbx.2.1;have d4:=zAA w1 _ 4 _ _ _ hbx.2.1;have d5:=zAA w1 _ 5 _ _ _ hbx.2.1;clear hbx hb1)
   | fail)
  go_ret
  exact ⟨rfl,HB1.out⟩
 subst p3
 by_cases p4:z0=z1
 case neg =>
  obtain rfl:q=false:=by rw [hq];exact decide_eq_false λe=>p4 e.2.2.2.2.1
  clear hq;have f1:(z0.toList==z1.toList)=false:=by rw [zKU,decide_eq_false_iff_not];exact λe=>p4 (ba_x e)
  have f2:¬z0.toList=z1.toList:=by simpa using f1
  go_enter func59,ntmps59
  go_wp2_with (first
   | (go_at_call 60;(with_reducible refine (HS.out).mono ?_);rintro e1 w1 ⟨rfl,hb1⟩;have hbx:=HBX.out w1 hb1;have HB1:Hid (Below w.heap.size w w1):=hI hbx.2.2;have c0:=zAA w1 _ 0 _ _ _ hbx.1;have c1:=zAA w1 _ 1 _ _ _ hbx.1;have c2:=zAA w1 _ 2 _ _ _ hbx.1;have c4:=zAA w1 _ 4 _ _ _ hbx.1;have c5:=zAA w1 _ 5 _ _ _ hbx.1;have d0:=zAA w1 _ 0 _ _ _ hbx.2.1;have d1:=zAA w1 _ 1 _ _ _ hbx.2.1;have d2:=zAA w1 _ 2 _ _ _ hbx.2.1;have d4:=zAA w1 _ 4 _ _ _ hbx.2.1;have d5:=zAA w1 _ 5 _ _ _ hbx.2.1;clear hbx hb1)
   | fail)
  go_ret
  exact ⟨rfl,HB1.out⟩
 subst p4
 by_cases p5:m0=m1
 case neg =>
  obtain rfl:q=false:=by rw [hq];exact decide_eq_false λe=>p5 e.2.2.2.2.2
  clear hq;have f1:(m0==m1)=false:=by simpa using p5
  go_enter func59,ntmps59
  go_wp2_with (first
   | (go_at_call 60;(with_reducible refine (HS.out).mono ?_);rintro e1 w1 ⟨rfl,hb1⟩;have hbx:=HBX.out w1 hb1;have HB1:Hid (Below w.heap.size w w1):=hI hbx.2.2;have c0:=zAA w1 _ 0 _ _ _ hbx.1;have c1:=zAA w1 _ 1 _ _ _ hbx.1;have c2:=zAA w1 _ 2 _ _ _ hbx.1;have c4:=zAA w1 _ 4 _ _ _ hbx.1;have c5:=zAA w1 _ 5 _ _ _ hbx.1;have d0:=zAA w1 _ 0 _ _ _ hbx.2.1;have d1:=zAA w1 _ 1 _ _ _ hbx.2.1;have d2:=zAA w1 _ 2 _ _ _ hbx.2.1;have d4:=zAA w1 _ 4 _ _ _ hbx.2.1;have d5:=zAA w1 _ 5 _ _ _ hbx.2.1;clear hbx hb1)
   | fail)
  go_ret
  exact ⟨rfl,HB1.out⟩
 subst p5;obtain rfl:q=true:=by rw [hq];exact decide_eq_true ⟨rfl,rfl,rfl,rfl,rfl,rfl⟩
 clear hq
 go_enter func59,ntmps59
 go_wp2_with (first
  | (go_at_call 60;(with_reducible refine (HS.out).mono ?_);rintro e1 w1 ⟨rfl,hb1⟩;have hbx:=HBX.out w1 hb1;have HB1:Hid (Below w.heap.size w w1):=hI hbx.2.2;have c0:=zAA w1 _ 0 _ _ _ hbx.1;have c1:=zAA w1 _ 1 _ _ _ hbx.1;have c2:=zAA w1 _ 2 _ _ _ hbx.1;have c4:=zAA w1 _ 4 _ _ _ hbx.1;have c5:=zAA w1 _ 5 _ _ _ hbx.1;have d0:=zAA w1 _ 0 _ _ _ hbx.2.1;have d1:=zAA w1 _ 1 _ _ _ hbx.2.1;have d2:=zAA w1 _ 2 _ _ _ hbx.2.1;have d4:=zAA w1 _ 4 _ _ _ hbx.2.1;have d5:=zAA w1 _ 5 _ _ _ hbx.2.1;clear hbx hb1)
  | fail)
 go_ret
 exact ⟨rfl,HB1.out⟩
theorem zSm (A B:Option Addr) (n cp n2 cp2:Nat) (l l2:List Nd) (w:World) (hr:RdB NdS w A l) (hn:l.length=n) (hr2:RdB NdS w B l2) (hn2:l2.length=n2) (hm:n<=1000000) (hm2:n2<=1000000)
 (hat:∀t∈l,t.attrs.length<=1000000) (hat2:∀t∈l2,t.attrs.length<=1000000) (q:Bool) (h:decide (l=l2)=q) :
 Calls prog 58 #[.slice A n cp,.slice B n2 cp2,.func (.func 59) #[] #[]] w λe w'=>e=.returned (.bool q)/\Below w.heap.size w w':=by
 have HR:=hI hr;have HN:=hI hn;have HR2:=hI hr2;have HN2:=hI hn2;have HM:=hI hm;have HH:=hI h;have HAT:=hI hat;have HAT2:=hI hat2;clear hr hn hr2 hn2 h hat hat2
 by_cases hne:n=n2
 · subst hne
   have f0:((n:Int) != (n:Int))=false:=by simp
   go_enter func58,ntmps58
   go_wp2_with fail
   go_loopg [7,15] n (λgg x7 i wr=>∃k:Nat,k+gg=n/\i=.int .i64 k/\l.take k=l2.take k/\Below w.heap.size w wr)
   case atStart=>exact ⟨0,by omega,rfl,rfl,Below.refl _ _⟩
   case round =>
    obtain ⟨k,hkg,rfl,hno,hbw⟩:=hrel;have hm:=HM.out;have HBW:=hI hbw
    by_cases hlt:k<n
    · have hk1:k<l.length:=by rw [HN.out];exact hlt
      have hk2:k<l2.length:=by rw [HN2.out];exact hlt
      obtain ⟨b0,off,x,y,t,A1,p1,rfl,hbB,hin,c0,c1,c2,c3,c4,c5⟩:=zCL (HR.out.on hbw) hk1;obtain ⟨b1,of1,x1,y1,t1,A2,p2,rfl,hbB1,hin1,d0,d1,d2,d3,d4,d5⟩:=zCL (HR2.out.on hbw) hk2;have ha0:=HAT.out _ (List.getElem_mem hk1);have ha1:=HAT2.out _ (List.getElem_mem hk2);obtain ⟨nd0,hnd0⟩:∃nd0,l[k]'hk1=nd0:=⟨_,rfl⟩;obtain ⟨nd1,hnd1⟩:∃nd1,l2[k]'hk2=nd1:=⟨_,rfl⟩;rw [hnd0] at hin c0 c3 c5 ha0;rw [hnd1] at hin1 d0 d3 d5 ha1;have bk:(0:Int)<=(k:Int)/\(k:Int)<(n:Int):=by omega
      have hC:∀qq W,Below wr.heap.size wr W->decide (nd0=nd1)=qq->Calls prog 59 #[NdV nd0 x y t A1 p1,NdV nd1 x1 y1 t1 A2 p2] W λe w'=>e=.returned (.bool qq)/\Below W.heap.size W w':=λqq W hW hq=>zN0 nd0 nd1 x y t x1 y1 t1 A1 A2 p1 p2 W (NdAt.on hin hW) (NdAt.on hin1 hW) ha0 ha1 qq hq
      unfold NdV at hC;obtain ⟨kd0,hkd0⟩:∃kd0,nd0.kind=kd0:=⟨_,rfl⟩;obtain ⟨kd1,hkd1⟩:∃kd1,nd1.kind=kd1:=⟨_,rfl⟩;obtain ⟨n1,hn1⟩:∃n1,nd0.attrs.length=n1:=⟨_,rfl⟩;obtain ⟨n3,hn3⟩:∃n3,nd1.attrs.length=n3:=⟨_,rfl⟩;obtain ⟨m0,hm0⟩:∃m0,nd0.many=m0:=⟨_,rfl⟩;obtain ⟨m1,hm1⟩:∃m1,nd1.many=m1:=⟨_,rfl⟩;rw [hkd0,hkd1,hn1,hn3,hm0,hm1] at hC;rw [hkd0] at c0;rw [hn1] at c3;rw [hm0] at c5;rw [hkd1] at d0;rw [hn3] at d3;rw [hm1] at d5
      have HK:Hid (∀W,Below wr.heap.size wr W->W.cell? ⟨b0,off+k*6,none⟩=some (.int .u8 (kd0:Int))/\W.cell? ⟨b0,off+k*6+1,none⟩=some (.string x)/\W.cell? ⟨b0,off+k*6+2,none⟩=some (.string y)/\W.cell? ⟨b0,off+k*6+3,none⟩=some (.slice A1 n1 p1)/\W.cell? ⟨b0,off+k*6+4,none⟩=some (.string t)/\W.cell? ⟨b0,off+k*6+5,none⟩=some (.int .i64 m0)/\W.cell? ⟨b1,of1+k*6,none⟩=some (.int .u8 (kd1:Int))/\W.cell? ⟨b1,of1+k*6+1,none⟩=some (.string x1)/\W.cell? ⟨b1,of1+k*6+2,none⟩=some (.string y1)/\W.cell? ⟨b1,of1+k*6+3,none⟩=some (.slice A2 n3 p2)/\W.cell? ⟨b1,of1+k*6+4,none⟩=some (.string t1)/\W.cell? ⟨b1,of1+k*6+5,none⟩=some (.int .i64 m1)):=hI λW hW =>
       ⟨(hW.cell (p:=⟨b0,_,none⟩) hbB).trans c0,(hW.cell (p:=⟨b0,_,none⟩) hbB).trans c1,(hW.cell (p:=⟨b0,_,none⟩) hbB).trans c2,(hW.cell (p:=⟨b0,_,none⟩) hbB).trans c3,(hW.cell (p:=⟨b0,_,none⟩) hbB).trans c4,(hW.cell (p:=⟨b0,_,none⟩) hbB).trans c5,(hW.cell (p:=⟨b1,_,none⟩) hbB1).trans d0,(hW.cell (p:=⟨b1,_,none⟩) hbB1).trans d1,(hW.cell (p:=⟨b1,_,none⟩) hbB1).trans d2,(hW.cell (p:=⟨b1,_,none⟩) hbB1).trans d3,(hW.cell (p:=⟨b1,_,none⟩) hbB1).trans d4,(hW.cell (p:=⟨b1,_,none⟩) hbB1).trans d5⟩
      by_cases hxy:nd0=nd1
      · have HC2:Hid _:=hI λW hW=>hC true W hW (decide_eq_true hxy)
        have HT:Hid (l.take (k+1)=l2.take (k+1)):=hI (zIC hk1 hk2 hno (by rw [hnd0,hnd1,hxy]));clear hC hno hxy hin hin1 ha0 ha1 hnd0 hnd1 hkd0 hkd1 hn1 hn3 hm0 hm1 hbw hbB hbB1
        go_wp2_with fail
        clear c0 c1 c2 c3 c4 c5 d0 d1 d2 d3 d4 d5
        go_region_held3 (λW=>W.cell? ⟨b0,off+k*6,none⟩=some (.int .u8 (kd0:Int))/\W.cell? ⟨b0,off+k*6+1,none⟩=some (.string x)/\W.cell? ⟨b0,off+k*6+2,none⟩=some (.string y)/\W.cell? ⟨b0,off+k*6+3,none⟩=some (.slice A1 n1 p1)/\W.cell? ⟨b0,off+k*6+4,none⟩=some (.string t)/\W.cell? ⟨b0,off+k*6+5,none⟩=some (.int .i64 m0)/\W.cell? ⟨b1,of1+k*6,none⟩=some (.int .u8 (kd1:Int))/\W.cell? ⟨b1,of1+k*6+1,none⟩=some (.string x1)/\W.cell? ⟨b1,of1+k*6+2,none⟩=some (.string y1)/\W.cell? ⟨b1,of1+k*6+3,none⟩=some (.slice A2 n3 p2)/\W.cell? ⟨b1,of1+k*6+4,none⟩=some (.string t1)/\W.cell? ⟨b1,of1+k*6+5,none⟩=some (.int .i64 m1))
         (first | exact HK.out _ (Below.refl _ _).drew | exact HK.out _ (stp (Below.refl _ _).drew hb1))
         ((go_at_call 59;(with_reducible refine (HC2.out _ (Below.refl _ _).drew).mono ?_);rintro e1 w1 ⟨rfl,hb1⟩))
        go_wp2_with fail
        go_roundg (gk - 1)
        case measure=>omega
        case rel=>exact ⟨k+1,by omega,by go_num,HT.out,stp HBW.out.drew hb1⟩
      · have HC2:Hid _:=hI λW hW=>hC false W hW (decide_eq_false hxy)
        obtain rfl:false=q:=by
         rw [←HH.out,eq_comm,decide_eq_false_iff_not];refine zRu hk1 hk2 λe=>hxy ?_
         rw [←hnd0,←hnd1,e]
        clear hC hno hxy hin hin1 ha0 ha1 hnd0 hnd1 hkd0 hkd1 hn1 hn3 hm0 hm1 hbw hbB hbB1
        go_wp2_with fail
        clear c0 c1 c2 c3 c4 c5 d0 d1 d2 d3 d4 d5
        go_region_held3 (λW=>W.cell? ⟨b0,off+k*6,none⟩=some (.int .u8 (kd0:Int))/\W.cell? ⟨b0,off+k*6+1,none⟩=some (.string x)/\W.cell? ⟨b0,off+k*6+2,none⟩=some (.string y)/\W.cell? ⟨b0,off+k*6+3,none⟩=some (.slice A1 n1 p1)/\W.cell? ⟨b0,off+k*6+4,none⟩=some (.string t)/\W.cell? ⟨b0,off+k*6+5,none⟩=some (.int .i64 m0)/\W.cell? ⟨b1,of1+k*6,none⟩=some (.int .u8 (kd1:Int))/\W.cell? ⟨b1,of1+k*6+1,none⟩=some (.string x1)/\W.cell? ⟨b1,of1+k*6+2,none⟩=some (.string y1)/\W.cell? ⟨b1,of1+k*6+3,none⟩=some (.slice A2 n3 p2)/\W.cell? ⟨b1,of1+k*6+4,none⟩=some (.string t1)/\W.cell? ⟨b1,of1+k*6+5,none⟩=some (.int .i64 m1))
         (first | exact HK.out _ (Below.refl _ _).drew | exact HK.out _ (stp (Below.refl _ _).drew hb1))
         ((go_at_call 59;(with_reducible refine (HC2.out _ (Below.refl _ _).drew).mono ?_);rintro e1 w1 ⟨rfl,hb1⟩))
        go_wp2_with fail
        go_ret
        exact ⟨rfl,stp HBW.out.drew hb1⟩
    · obtain rfl:k=n:=by omega
      obtain rfl:true=q:=by
       rw [←HH.out,eq_comm,decide_eq_true_eq]
       rwa [List.take_of_length_le (by rw [HN.out];exact Nat.le_refl _),List.take_of_length_le (by rw [HN2.out];exact Nat.le_refl _)] at hno
      clear hno
      go_wp2_with fail
      go_ret
      exact ⟨rfl,HBW.out⟩
 · have d0:((n:Int) != (n2:Int))=true:=by simp;omega
   have d1:(n != n2)=true:=by simpa using hne
   have d2:(n==n2)=false:=by simpa using hne
   obtain rfl:false=q:=by
    rw [←HH.out,eq_comm,decide_eq_false_iff_not];rintro rfl;exact hne (HN.out.symm.trans HN2.out)
   clear hne
   go_enter func58,ntmps58
   go_wp2_with fail
   go_ret
   exact ⟨rfl,Below.refl _ _⟩
theorem zPn (A B:Option Addr) (n cp n2 cp2:Nat) (l l2:List Nd) (w:World) (hr:RdB NdS w A l) (hn:l.length=n) (hr2:RdB NdS w B l2) (hn2:l2.length=n2) (hm:n<=1000000) (hm2:n2<=1000000)
 (hat:∀t∈l,t.attrs.length<=1000000) (hat2:∀t∈l2,t.attrs.length<=1000000) (q:Bool) (h:decide (l=l2)=q) :
 Calls prog 24 #[.slice A n cp,.slice B n2 cp2] w λe w'=>e=.returned (.bool q)/\Below w.heap.size w w':=by
 have HC:=hI (zSm A B n cp n2 cp2 l l2 w hr hn hr2 hn2 hm hm2 hat hat2 q h);clear hr hn hr2 hn2 hm hm2 hat hat2 h
 go_enter func24,ntmps24
 go_wp2_with (first
  | (go_at_call 58;(with_reducible refine (HC.out).mono ?_);rintro e1 w1 ⟨rfl,hb1⟩)
  | fail)
 go_ret
 exact ⟨rfl,hb1⟩
theorem zFo {n:Nd} (h:zAW n):zCr ⟨4,[],[],n.text⟩:=⟨Nat.zero_le _,h.text,Nat.zero_le _,λp hp=>(by cases hp)⟩
theorem zHp {n:Nd} (k:Nat) (h:zAW n):zCr ⟨k,n.name,zAk n.attrs,[]⟩:=⟨h.name,Nat.zero_le _,by show (zAk n.attrs).length<=_;unfold zAk;rw [List.length_map];exact h.attrs,λp hp=>by
 have hp:p∈zAk n.attrs:=hp;unfold zAk at hp;obtain ⟨a,ha,rfl⟩:=List.mem_map.1 hp;exact ⟨(h.each a ha).2.1,(h.each a ha).2.2⟩⟩
theorem zML {n:Nd} (h:zAW n):zCr ⟨2,n.name,[],[]⟩:=⟨h.name,Nat.zero_le _,Nat.zero_le _,λp hp=>(by cases hp)⟩
theorem zIj {g:List Nd->List Tk × List Nd} (hg:∀l,(∀n∈l,zAW n)->(∀t∈(g l).1,zCr t)/\∀n∈(g l).2,n∈l):∀(k:Nat) (l:List Nd),(∀n∈l,zAW n)->(∀t∈(zBM g k l).1,zCr t)/\∀n∈(zBM g k l).2,n∈l:=by
 intro k
 induction k with
 | zero=>intro l _;exact ⟨λt ht=>by simp [zBM] at ht,λn hn=>by simpa [zBM] using hn⟩
 | succ k ih =>
  intro l hl;obtain ⟨h1,h2⟩:=hg l hl;obtain ⟨h3,h4⟩:=ih (g l).2 λn hn=>hl n (h2 n hn)
  rw [zBM];refine ⟨λt ht=>?_,λn hn=>h2 n (h4 n hn)⟩;rcases List.mem_append.1 ht with ht | ht
  · exact h1 t ht
  · exact h3 t ht
theorem zI3:∀(d:Nat) (l:List Nd),(∀n∈l,zAW n)->(∀t∈(zAz d l).1,zCr t)/\∀n∈(zAz d l).2,n∈l:=by
 have none:∀d,zAz d []=([],[]):=λd=>by rw [zAz]
 intro d
 induction d with
 | zero =>
  intro l hl
  cases l with
  | nil=>rw [none];exact ⟨λt ht=>(by cases ht),λn hn=>(by cases hn)⟩
  | cons n l =>
   rw [zAz];exact ⟨λt ht=>by obtain rfl:=List.mem_singleton.1 ht;exact zFo (hl n List.mem_cons_self),λm hm=>List.mem_cons_of_mem _ hm⟩
 | succ d ih =>
  intro l hl
  cases l with
  | nil=>rw [none];exact ⟨λt ht=>(by cases ht),λn hn=>(by cases hn)⟩
  | cons n l =>
   have hn:=hl n List.mem_cons_self;rw [zAz]
   by_cases hk:n.kind=2
   · rw [if_pos hk]
     exact ⟨λt ht=>by obtain rfl:=List.mem_singleton.1 ht;exact zFo hn,λm hm=>List.mem_cons_of_mem _ hm⟩
   · rw [if_neg hk]
     by_cases hm:n.many=0
     · rw [if_pos hm]
       exact ⟨λt ht=>by obtain rfl:=List.mem_singleton.1 ht;exact zHp 3 hn,λm hm=>List.mem_cons_of_mem _ hm⟩
     · rw [if_neg hm]
       obtain ⟨h1,h2⟩:=zIj ih n.many.toNat l λm hm=>hl m (List.mem_cons_of_mem _ hm)
       refine ⟨λt ht=>?_,λm hm=>List.mem_cons_of_mem _ (h2 m hm)⟩;rcases List.mem_cons.1 ht with rfl | ht
       · exact zHp 1 hn
       · rcases List.mem_append.1 ht with ht | ht
         · exact h1 t ht
         · obtain rfl:=List.mem_singleton.1 ht
           exact zML hn
theorem zFT {v:List Nd} {ts:List Tk} (h:zA1 v=(ts,0)) (hv:∀n∈v,zAW n):ts.length<=512/\∀t∈ts,zCr t:=by
 unfold zA1 at h
 split at h
 · split at h
   · have:=congrArg Prod.snd h
     cases this
   · obtain ⟨rfl,_⟩:=(Prod.mk.injEq _ _ _ _).mp h
     exact ⟨by omega,(zI3 12 v hv).1⟩
 · have:=congrArg Prod.snd h
   cases this
end Hx
namespace Hx
open Lx Tr Tx Nmb Es Ns
def zBd (s:List UInt8):List Nd × Int:=if (zED s).2=0 then zA5 (zED s).1 else ([],(zED s).2)
def zBO (v:List Nd) (o:List UInt8):List UInt8 × Int:=if (zCS v o).2=0 then (if (zA1 (zCS v o).1).2=0 then zDH (zA1 (zCS v o).1).1 else ([],(zA1 (zCS v o).1).2)) else ([],(zCS v o).2)
def zA9 (s:List UInt8):List UInt8 × Int:=if (zBd s).2=0 then zBO (zBd s).1 [] else ([],(zBd s).2)
theorem zDF {s:List UInt8} {ts:List Tk} {k er:Int} (h:lexR s=(ts,k,er)):zED s=if er=0 then zBE ts else ([],er):=by
 unfold zED;rw [h]
theorem zCW {s:List UInt8} {v:List Nd} {q:Int} (h:zED s=(v,q)):zBd s=if q=0 then zA5 v else ([],q):=by
 unfold zBd;rw [h]
theorem zBz {v:List Nd} {o:List UInt8} {x:List Nd} {e:Int} (h:zCS v o=(x,e)):zBO v o=if e=0 then (if (zA1 x).2=0 then zDH (zA1 x).1 else ([],(zA1 x).2)) else ([],e):=by
 unfold zBO;rw [h]
theorem zFe {v:List Nd} {o:List UInt8} {x:List Nd} {ts:List Tk} {f:Int} (h:zCS v o=(x,0)) (ht:zA1 x=(ts,f)):zBO v o=if f=0 then zDH ts else ([],f):=by
 rw [zBz h,if_pos rfl,ht]
theorem zCV {s:List UInt8} {v:List Nd} {q:Int} (h:zBd s=(v,q)):zA9 s=if q=0 then zBO v [] else ([],q):=by
 unfold zA9;rw [h]
theorem zM6 {l:List Tk} {x:List UInt8} {e:Int} (h:zDH l=(x,e)) (he:e≠0):x=[]:=by
 unfold zDH at h
 split at h
 · split at h
   · exact ((Prod.mk.injEq _ _ _ _).mp h).1.symm
   · exact absurd ((Prod.mk.injEq _ _ _ _).mp h).2.symm he
 · exact ((Prod.mk.injEq _ _ _ _).mp h).1.symm
theorem zMz {l:List Tk} {x:List UInt8} {e:Int} (h:zDH l=(x,e)):x.length<=16384:=by
 unfold zDH at h
 split at h
 · split at h
   · rw [←((Prod.mk.injEq _ _ _ _).mp h).1];exact Nat.zero_le _
   · rw [←((Prod.mk.injEq _ _ _ _).mp h).1];omega
 · rw [←((Prod.mk.injEq _ _ _ _).mp h).1];exact Nat.zero_le _
theorem zFQ {v:List Nd} {o s:List UInt8} (h:zBO v o=(s,0)):∃a ts,zCS v o=(a,0)/\zA1 a=(ts,0)/\zDH ts=(s,0):=by
 obtain ⟨a,e,ha⟩:∃a e,zCS v o=(a,e):=⟨_,_,rfl⟩;rw [zBz ha] at h
 by_cases he:e=0
 · subst he
   rw [if_pos rfl] at h;obtain ⟨ts,f,ht⟩:∃ts f,zA1 a=(ts,f):=⟨_,_,rfl⟩;rw [ht] at h;dsimp only at h
   by_cases hf:f=0
   · subst hf
     rw [if_pos rfl] at h;exact ⟨a,ts,ha,ht,h⟩
   · rw [if_neg hf] at h
     exact absurd ((Prod.mk.injEq _ _ _ _).mp h).2 hf
 · rw [if_neg he] at h
   exact absurd ((Prod.mk.injEq _ _ _ _).mp h).2 he
theorem zCo {v:List Nd} {o s:List UInt8} {z:Int} (h:zBO v o=(s,z)) (hz:z≠0):s=[]:=by
 obtain ⟨a,e,ha⟩:∃a e,zCS v o=(a,e):=⟨_,_,rfl⟩;rw [zBz ha] at h
 split at h
 · split at h
   · exact zM6 h hz
   · exact ((Prod.mk.injEq _ _ _ _).mp h).1.symm
 · exact ((Prod.mk.injEq _ _ _ _).mp h).1.symm
theorem zFC {v:List Nd} {o s:List UInt8} {z:Int} (h:zBO v o=(s,z)):s.length<=16384:=by
 by_cases hz:z=0
 · subst hz
   obtain ⟨_,_,_,_,hj⟩:=zFQ h;exact zMz hj
 · rw [zCo h hz];exact Nat.zero_le _
theorem zKX {s:List UInt8} {v:List Nd} {z:Int} (h:zBd s=(v,z)) (hz:z≠0):v=[]:=by
 unfold zBd at h
 split at h
 · exact (zNP h hz).1
 · exact ((Prod.mk.injEq _ _ _ _).mp h).1.symm
theorem zFG {s x:List UInt8} {z:Int} (h:zA9 s=(x,z)) (hz:z≠0):x=[]:=by
 unfold zA9 at h
 split at h
 · exact zCo h hz
 · exact ((Prod.mk.injEq _ _ _ _).mp h).1.symm
theorem zFl {v:List Nd} {s:List UInt8} (h:zBO v []=(s,0)):zBd s=(v,0):=by
 obtain ⟨a,ts,h1,h2,h3⟩:=zFQ h;have h4:=zDF (zN7 h3);rw [if_pos rfl,(zGw h2).1] at h4;rw [zCW h4,if_pos rfl];exact (zL7 h1).1
theorem zOY {s x:List UInt8} (h:zA9 s=(x,0)):∃v,zBd s=(v,0)/\zBO v []=(x,0)/\zBd x=(v,0)/\zA9 x=(x,0):=by
 obtain ⟨v,q,hv⟩:∃v q,zBd s=(v,q):=⟨_,_,rfl⟩;rw [zCV hv] at h
 by_cases hq:q=0
 · subst hq
   rw [if_pos rfl] at h;have h1:=zFl h;refine ⟨v,hv,h,h1,?_⟩;rw [zCV h1,if_pos rfl];exact h
 · rw [if_neg hq] at h
   exact absurd ((Prod.mk.injEq _ _ _ _).mp h).2 hq
structure TkU (k:Nat) (t:Tk):Prop where
 name:t.name.length<=k
 text:t.text.length<=k
 attrs:t.attrs.length<=16
 each:∀p∈t.attrs,p.name.length<=k/\p.value.length<=k
theorem TkU.to {k:Nat} {t:Tk} (h:TkU k t) (hk:k<=1000000):zCr t :=
 ⟨Nat.le_trans h.name hk,Nat.le_trans h.text hk,Nat.le_trans h.attrs (by decide),λp hp=>⟨Nat.le_trans (h.each p hp).1 hk,Nat.le_trans (h.each p hp).2 hk⟩⟩
theorem zQM {k:Nat} {t:Tk} (h:mayT t=true) (ha:t.attrs.length<=16) (hl:(zAO t).length<=k):TkU k t:=by
 rcases zBT h with ⟨b,hk,h1,h2,h3⟩ | ⟨hk,h1,h2,h3⟩ | ⟨hk,h1,h2,h3,h4⟩
 · unfold zAO at hl
   rw [if_neg (by rw [hk];cases b <;> decide),if_neg (by rw [hk];cases b <;> decide)] at hl;simp only [List.length_cons,List.length_append] at hl;refine ⟨by omega,by rw [h3];exact Nat.zero_le _,ha,λp hp=>?_⟩;have k1:=zF1 zBU _ p hp;have k2:=zNn p
   omega
 · unfold zAO at hl
   rw [if_neg (by omega),if_pos hk] at hl;simp only [List.length_cons,List.length_append,List.length_nil] at hl;exact ⟨by omega,by rw [h3];exact Nat.zero_le _,ha,by rw [h2];simp⟩
 · unfold zAO at hl
   rw [if_pos hk] at hl;have:=(zCn false t.text).1;exact ⟨by rw [h1];exact Nat.zero_le _,by omega,ha,by rw [h2];simp⟩
theorem zI7 {l:List UInt8} {ts:List Tk} {n er:Int} (h:lexR l=(ts,n,er)):ts.length<=512/\∀t∈ts,TkU 100000 t:=by
 by_cases h0:er=0
 · subst h0
   obtain ⟨_,hI,hP,h16,h512,hat⟩:=zPu h;obtain ⟨k1,k2,k3⟩:=hI.text hP h16;refine ⟨h512,λt ht=>?_⟩;have:=zF1 zAO ts t ht;exact zQM (k1 t ht (hat t ht)) (hat t ht) (by omega)
 · rw [(zOw h h0).1]
   exact ⟨Nat.zero_le _,λt ht=>by cases ht⟩
theorem zMw {P:Nd->Prop} (hb:∀n,P n->P (zCX n)) {s s':PS} {b:Bool} {t:Tk} (h:∀n∈s.V,P n) (ht:P (zAu t)) (hs:zBA s b t=.ok s'):∀n∈s'.V,P n:=by
 have hnew:∀n∈bump s.O s.V++[zAu t],P n:=λn hn=>by
  rcases List.mem_append.1 hn with hn | hn
  · unfold bump at hn
    split at hn
    · exact h n hn
    · obtain ⟨j,hj,e⟩:=List.getElem_of_mem hn
      rw [List.getElem_modify] at e;rw [List.length_modify] at hj;have h9:=h _ (List.getElem_mem hj)
      split at e
      · rw [←e];exact hb _ h9
      · rw [←e];exact h9
  · obtain rfl:=List.mem_singleton.1 hn
    exact ht
 unfold zBA at hs
 split at hs
 · split at hs
   · cases hs
   · split at hs
     · split at hs
       · injection hs with hs;subst hs;exact h
       · cases hs
     · injection hs with hs
       subst hs;exact hnew
 · split at hs
   · split at hs
     · cases hs
     · split at hs
       · injection hs with hs
         subst hs;exact h
       · cases hs
   · split at hs
     · cases hs
     · split at hs
       · cases hs
       · injection hs with hs
         subst hs;exact hnew
theorem zJe {P:Nd->Prop} (hb:∀n,P n->P (zCX n)):∀(l:List Tk) (s s':PS) (b:Bool),(∀n∈s.V,P n)->(∀t∈l,P (zAu t))->runP s b l=.ok s'->∀n∈s'.V,P n
 | [],s,s',b,h,_,hr=>by
  rw [runP] at hr;injection hr with hr;subst hr;exact h
 | t::l,s,s',b,h,hl,hr=>by
  rw [runP] at hr
  cases hx:zBA s b t with
  | error e=>rw [hx] at hr;cases hr
  | ok s2 =>
   rw [hx] at hr;exact zJe hb l s2 s' _ (zMw hb h (hl t List.mem_cons_self) hx) (λt ht=>hl t (List.mem_cons_of_mem _ ht)) hr
theorem zK9 {P:Nd->Prop} (hb:∀n,P n->P (zCX n)) {l:List Tk} {v:List Nd} {z:Int} (h:zBE l=(v,z)) (hl:∀t∈l,P (zAu t)):∀n∈v,P n:=by
 by_cases hz:z=0
 · subst hz
   unfold zBE at h
   split at h
   · have:=congrArg Prod.snd h
     cases this
   · split at h
     · cases hx:runP ⟨[],[]⟩ false l with
       | error e =>
        rw [hx] at h;have h1:([],e)=(v,(0:Int)):=h;rw [((Prod.mk.injEq _ _ _ _).mp h1).1.symm];exact λn hn=>(by cases hn)
       | ok s =>
        rw [hx] at h;unfold endP at h;dsimp only at h
        split at h
        · have:=congrArg Prod.snd h
          cases this
        · rw [←((Prod.mk.injEq _ _ _ _).mp h).1]
          exact zJe hb l _ s false (λn hn=>(by cases hn)) hl hx
     · have:=congrArg Prod.snd h
       cases this
 · rw [(zHs h hz).1]
   exact λn hn=>by cases hn
theorem zNw {k:Nat} {t:Tk} (h:TkU k t):zAy k (zAu t)/\(zAu t).attrs.length<=16:=by
 unfold zAu
 split
 · exact ⟨⟨Nat.zero_le _,Nat.zero_le _,h.text,Nat.zero_le _,λa ha=>(by cases ha)⟩,Nat.zero_le _⟩
 · have hl:(zAm t.attrs).length<=16:=by unfold zAm;rw [List.length_map];exact h.attrs
   refine ⟨⟨Nat.zero_le _,h.name,Nat.zero_le _,Nat.le_trans hl (by decide),λa ha=>?_⟩,hl⟩;have ha:a∈zAm t.attrs:=ha;unfold zAm at ha;obtain ⟨p,hp,rfl⟩:=List.mem_map.1 ha;exact ⟨Nat.zero_le _,(h.each p hp).1,(h.each p hp).2⟩
theorem zEk {k:Nat} {l:List Tk} {v:List Nd} {z:Int} (h:zBE l=(v,z)) (hl:∀t∈l,TkU k t):∀n∈v,zAy k n :=
 zK9 (P:=zAy k) (λn hn=>⟨hn.space,hn.name,hn.text,hn.attrs,hn.each⟩) h λt ht=>(zNw (hl t ht)).1
theorem zEA {l:List Tk} {v:List Nd} {z:Int} (h:zBE l=(v,z)):v.length<=512:=by
 by_cases hz:z=0
 · subst hz
   obtain ⟨_,_,h3,_,_,h6⟩:=zMW h
   omega
 · rw [(zHs h hz).1]
   exact Nat.zero_le _
theorem zL6 {s:List UInt8} {v:List Nd} {z:Int} (h:zED s=(v,z)):v.length<=512/\∀n∈v,zAy 100000 n:=by
 obtain ⟨ts,k,er,hl⟩:∃ts k er,lexR s=(ts,k,er):=⟨_,_,_,rfl⟩;rw [zDF hl] at h
 split at h
 · exact ⟨zEA h,zEk h (zI7 hl).2⟩
 · rw [←((Prod.mk.injEq _ _ _ _).mp h).1]
   exact ⟨Nat.zero_le _,λn hn=>by cases hn⟩
theorem zGs {v l:List Nd} {z:Int} (h:zA5 v=(l,z)) (hv:v.length<=512):l.length<=512:=by
 by_cases hz:z=0
 · subst hz
   rw [(zQW h).2.1];exact hv
 · rw [(zNP h hz).1]
   exact Nat.zero_le _
theorem zHG {s:List UInt8} {v:List Nd} {z:Int} (h:zBd s=(v,z)):v.length<=512/\∀n∈v,zAy 100000 n:=by
 obtain ⟨u,q,hu⟩:∃u q,zED s=(u,q):=⟨_,_,rfl⟩;obtain ⟨h1,h2⟩:=zL6 hu;rw [zCW hu] at h
 split at h
 · exact ⟨zGs h h1,zFN (by decide) h2 h⟩
 · rw [←((Prod.mk.injEq _ _ _ _).mp h).1]
   exact ⟨Nat.zero_le _,λn hn=>by cases hn⟩
end Hx
section
open Go.RowKit Go.Extern.Stop Go.Stop Go.Extern
namespace Hx
theorem zAe (t:Value) (w:World):Calls prog 99 #[.nilIface,t] w λe w'=>e=.returned (.bool false)/\w'=w:=by
 go_enter func99,ntmps99
 go_wp2
 go_ret
 exact ⟨rfl,rfl⟩
theorem vP (t:Addr) (w:World):(ReflectliteValue.unpack (.iface 120 (.pointer (some t)))).run prog w
 =.ok (.agg #[.pointer (some ⟨9,120,none⟩),.pointer (some ⟨w.heap.size,0,none⟩),.int .u64 150]) (w.alloc (.cells #[.pointer (some t)] 120)):=by kernel_rfl
theorem tP (a : Addr) (w : World) : (ReflectliteValue.methodAny (ReflectliteValue.valueError "reflectlite.Value.Type" 0) (λt _ _ _ => ReflectliteType.toType t) #[.agg #[.pointer (some ⟨9, 120, none⟩), .pointer (some a), .int .u64 150]]).run prog w
 =.ok (.iface 192 (.agg #[.pointer (some ⟨9,120,none⟩)])) w:=by kernel_rfl
theorem kP (w:World):((ReflectliteType.abiMethod λt=>(λa:Nat=>Value.int IntKind.u8 (a:Int)) <$> Rtype.kind t) #[.pointer (some ⟨9,120,none⟩)]).run prog w=.ok (.int .u8 22) w:=by kernel_rfl
theorem kE (w:World):((ReflectliteType.abiMethod λt=>(λa:Nat=>Value.int IntKind.u8 (a:Int)) <$> Rtype.kind t) #[.pointer (some ⟨9,25,none⟩)]).run prog w=.ok (.int .u8 2) w:=by kernel_rfl
theorem eP (w:World):(ReflectliteType.method ReflectliteType.elem #[.agg #[.pointer (some ⟨9,120,none⟩)]]).run prog w=.ok (.iface 192 (.agg #[.pointer (some ⟨9,25,none⟩)])) w:=by kernel_rfl
theorem iE (w : World) : (ReflectliteType.relation "Implements" ReflectliteType.implements_ #[.agg #[.pointer (some ⟨9, 25, none⟩)], .iface 192 (.agg #[.pointer (some ⟨9, 119, none⟩)])]).run prog w = .ok (.bool true) w := by kernel_rfl
theorem oE (v:Value) (w:World):(ReflectliteType.typeOf #[.iface 25 v]).run prog w=.ok (.iface 192 (.agg #[.pointer (some ⟨9,25,none⟩)])) w:=by kernel_rfl
theorem aE (w : World) : (ReflectliteType.relation "AssignableTo" ReflectliteType.assignableTo #[.agg #[.pointer (some ⟨9, 25, none⟩)], .iface 192 (.agg #[.pointer (some ⟨9, 25, none⟩)])]).run prog w = .ok (.bool true) w := by kernel_rfl
theorem vE (z:Int) (w:World):(ReflectliteValue.unpack (.iface 25 (.int .i64 z))).run prog w
 =.ok (.agg #[.pointer (some ⟨9,25,none⟩),.pointer (some ⟨w.heap.size,0,none⟩),.int .u64 130]) (w.alloc (.cells #[.int .i64 z] 25)):=by kernel_rfl
end Hx
end
end Go.Proofs.YtlgppednjkbgiaaGreatDoor
