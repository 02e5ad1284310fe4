/- Texts put together. -/
import Derived.Test.YtlgppednjkbgiaaGreatDoorMiA
import Derived.Test.YtlgppednjkbgiaaGreatDoorMi16
import Derived.Test.YtlgppednjkbgiaaGreatDoorMi23
import Derived.Handy
import Derived.Test.YtlgppednjkbgiaaGreatDoorMi22
import Derived.Test.YtlgppednjkbgiaaGreatDoorProg
import Derived.WalkKit
import Derived.LaidEql
import Derived.Stop.Asserts
import Derived.RowKitTokens
import Derived.Below
import Derived.Test.YtlgppednjkbgiaaGreatDoorMi02
set_option maxRecDepth 100000
set_option maxHeartbeats 16000000
set_option linter.unusedVariables false
set_option linter.unusedSimpArgs false
namespace Go.Proofs.YtlgppednjkbgiaaGreatDoor
open Go.RowKit Go.Proofs.Tryz
namespace Hx
open Lx Tr Tx Nmb Es Ns
theorem zRW (B:Nat) (s o:ByteArray) (w:World) (hp:TxB B s o w) (hs:s.size<=1000000) (ts:List Tk) (k er:Int) (h:lexR s.data.toList=(ts,k,er)) (hE:Ev9 w:=by first | assumption | exact Ev9.to (by assumption) (by assumption)) :
 Calls prog 66 #[.pointer (some ⟨B,0,none⟩)] w λe w'=>e=.returned (errV er)/\TkB B o ts w'∧w.grownBy w' (some B):=by
 obtain ⟨a,n,c,a1,n1,c1,hp⟩:=hp;obtain ⟨tn,htn⟩:∃tn,ts.length=tn:=⟨_,rfl⟩;have HTN:=hI htn;have HC:Hid (Calls prog 103 #[.string s] w λe w'=>∃A c,e=.returned (.tuple #[.slice A tn c,.int .i64 k,.int .i64 er])/\TkIn ts A c w'∧Below w.heap.size w w'):=hI (by rw [←htn];exact lex9 s w hs ts k er h);have HP:=hI hp;have k0:=zAA w B 0 _ _ _ hp;have k1:=zAA w B 1 _ _ _ hp;have k2:=zAA w B 2 _ _ _ hp;have k3:=zAA w B 3 _ _ _ hp;have hB:=zAc hp;have HF:Hid (∀W:World,Calls prog 100 #[.int .i64 er] W λe w'=>e=.returned (errV er)/\w'=W):=hI λW=>zD0 er W
 obtain ⟨ev,hev⟩:∃ev,errV er=ev:=⟨_,rfl⟩;rw [hev] at HF ⊢;clear hs h hE htn hp hev
 go_enter func66,ntmps66
 go_wp2_with (first
  | (go_at_call 103;(with_reducible refine (HC.out).mono ?_);rintro e1 w1 ⟨A2,c2,rfl,hi,hb1⟩;have HP1:=hI (HP.out.on hb1);have HB1:=hI hb1;have HI:=hI hi.1;clear hi;have q1:=zAA w1 B 1 _ _ _ HP1.out;have f1:=zAY w1 B 1 _ _ HP1.out;clear hb1)
  | (go_at_call 100;(with_reducible refine (HF.out _).mono ?_);rintro e2 w2 ⟨rfl,rfl⟩)
  | fail)
 first | go_ret | go_returns
 exact ⟨rfl,⟨s,A2,c2,a1,n1,c1,by rw [HTN.out];exact HP1.out.set1 A2 tn c2,HP1.out.tks HI.out (But.set _ _ _ _)⟩,zFl HB1.out B 1 _⟩
theorem zMe (B:Nat) (o:ByteArray) (ts:List Tk) (w:World) (hp:TkB B o ts w) (hl:ts.length<=512) (hs:∀t∈ts,zCn t) (v:List Nd) (q:Int) (h:zBO ts=(v,q)) :
 Calls prog 67 #[.pointer (some ⟨B,0,none⟩)] w λe w'=>e=.returned (errV q)/\TrB B o v w'∧w.grownBy w' (some B):=by
 obtain ⟨s,A,c,a1,n1,c1,hp,hr⟩:=hp;obtain ⟨tn,htn⟩:∃tn,ts.length=tn:=⟨_,rfl⟩;obtain ⟨vn,hvn⟩:∃vn,v.length=vn:=⟨_,rfl⟩;have HVN:=hI hvn;rw [htn] at hp;have HC:Hid (Calls prog 104 #[.slice A tn c] w λe w'=>∃A c,e=.returned (.tuple #[.slice A vn c,.int .i64 q])/\RdB NdS w' A v/\Below w.heap.size w w'):=hI ((zQi A tn c ts w hr htn (by omega) hs).mono λe w' h2=>by obtain ⟨A,c,h3,h4,_,_,_,h5⟩:=h2.with h hvn;exact ⟨A,c,h3,h4,h5⟩);have HP:=hI hp;have k0:=zAA w B 0 _ _ _ hp;have k1:=zAA w B 1 _ _ _ hp;have k2:=zAA w B 2 _ _ _ hp;have k3:=zAA w B 3 _ _ _ hp;have hB:=zAc hp;have HF:Hid (∀W:World,Calls prog 100 #[.int .i64 q] W λe w'=>e=.returned (errV q)/\w'=W):=hI λW=>zD0 q W
 obtain ⟨ev,hev⟩:∃ev,errV q=ev:=⟨_,rfl⟩;rw [hev] at HF ⊢;clear hr hl hs h htn hvn hp hev
 go_enter func67,ntmps67
 go_wp2_with (first
  | (go_at_call 104;(with_reducible refine (HC.out).mono ?_);rintro e1 w1 ⟨A2,c2,rfl,hi,hb1⟩;have HP1:=hI (HP.out.on hb1);have HB1:=hI hb1;have HI:=hI hi;clear hi;have q2:=zAA w1 B 2 _ _ _ HP1.out;have f2:=zAY w1 B 2 _ _ HP1.out;clear hb1)
  | (go_at_call 100;(with_reducible refine (HF.out _).mono ?_);rintro e2 w2 ⟨rfl,rfl⟩)
  | fail)
 first | go_ret | go_returns
 exact ⟨rfl,⟨s,A,tn,c,A2,c2,by rw [HVN.out];exact HP1.out.set2 A2 vn c2,HP1.out.nds HI.out (But.set _ _ _ _)⟩,zFl HB1.out B 2 _⟩
theorem zHf (B:Nat) (o:ByteArray) (v:List Nd) (w:World) (hp:TrB B o v w) (hl:v.length<=512) (hs:∀m∈v,zA5 900000 m) (u:List Nd) (z:Int) (h:zA7 v=(u,z)) :
 Calls prog 68 #[.pointer (some ⟨B,0,none⟩)] w λe w'=>e=.returned (errV z)/\TrB B o u w'∧w.grownBy w' (some B):=by
 obtain ⟨s,a,n,c1,A,c,hp,hr⟩:=hp;obtain ⟨tn,htn⟩:∃tn,v.length=tn:=⟨_,rfl⟩;obtain ⟨vn,hvn⟩:∃vn,u.length=vn:=⟨_,rfl⟩;have HVN:=hI hvn;rw [htn] at hp;have HC:Hid (Calls prog 13 #[.slice A tn c] w λe w'=>∃A c,e=.returned (.tuple #[.slice A vn c,.int .i64 z])/\RdB NdS w' A u/\Below w.heap.size w w'):=hI ((zKr A tn c v w hr htn (by omega) (λ_ m hm=>(hs m hm).up (by decide)) u z h).mono λe w' h2=>h2.with hvn);have HP:=hI hp;have k0:=zAA w B 0 _ _ _ hp;have k1:=zAA w B 1 _ _ _ hp;have k2:=zAA w B 2 _ _ _ hp;have k3:=zAA w B 3 _ _ _ hp;have hB:=zAc hp;have HF:Hid (∀W:World,Calls prog 100 #[.int .i64 z] W λe w'=>e=.returned (errV z)/\w'=W):=hI λW=>zD0 z W
 obtain ⟨ev,hev⟩:∃ev,errV z=ev:=⟨_,rfl⟩;rw [hev] at HF ⊢;clear hr hl hs h htn hvn hp hev
 go_enter func68,ntmps68
 go_wp2_with (first
  | (go_at_call 13;(with_reducible refine (HC.out).mono ?_);rintro e1 w1 ⟨A2,c2,rfl,hi,hb1⟩;have HP1:=hI (HP.out.on hb1);have HB1:=hI hb1;have HI:=hI hi;clear hi;have q2:=zAA w1 B 2 _ _ _ HP1.out;have f2:=zAY w1 B 2 _ _ HP1.out;clear hb1)
  | (go_at_call 100;(with_reducible refine (HF.out _).mono ?_);rintro e2 w2 ⟨rfl,rfl⟩)
  | fail)
 first | go_ret | go_returns
 exact ⟨rfl,⟨s,a,n,c1,A2,c2,by rw [HVN.out];exact HP1.out.set2 A2 vn c2,HP1.out.nds HI.out (But.set _ _ _ _)⟩,zFl HB1.out B 2 _⟩
theorem zJW (B:Nat) (o:ByteArray) (v:List Nd) (w:World) (hp:TrB B o v w) (hl:v.length<=9223372036854775807) (hs:v.length<=512->∀m∈v,zA5 900000 m) (ho:o.size<=1000000) (u:List Nd) (z:Int) (h:zB5 v o.data.toList=(u,z)) (hT:TbH w:=by first | assumption | exact TbH.to (by assumption) (by assumption)) :
 Calls prog 63 #[.pointer (some ⟨B,0,none⟩)] w λe w'=>e=.returned (errV z)/\TrB B o u w'∧w.grownBy w' (some B):=by
 obtain ⟨s,a,n,c1,A,c,hp,hr⟩:=hp;obtain ⟨tn,htn⟩:∃tn,v.length=tn:=⟨_,rfl⟩;obtain ⟨vn,hvn⟩:∃vn,u.length=vn:=⟨_,rfl⟩;have HVN:=hI hvn;rw [htn] at hp;have HC:Hid (∀W,Below w.heap.size w W->Calls prog 15 #[.slice A tn c,.string o] W λe w'=>∃A c,e=.returned (.tuple #[.slice A vn c,.int .i64 z])/\RdB NdS w' A u/\Below W.heap.size W w'):=hI λW hW=>((zP0 A tn c v o W (hr.on hW) htn (by omega) (λh5=>hs (by omega)) ho (hT.to hW) u z h).mono λe w' h2=>h2.with hvn)
 have HKP:Hid (∀W,Below w.heap.size w W->W.cell? ⟨B,2,none⟩=some (.slice A tn c)/\W.cell? ⟨B,3,none⟩=some (.string o)):=hI λW hW=>⟨zAA W B 2 _ _ _ (hp.on hW),zAA W B 3 _ _ _ (hp.on hW)⟩
 have HP:=hI hp;have k0:=zAA w B 0 _ _ _ hp;have k1:=zAA w B 1 _ _ _ hp;have k2:=zAA w B 2 _ _ _ hp;have k3:=zAA w B 3 _ _ _ hp;have hB:=zAc hp;have HF:Hid (∀W:World,Calls prog 100 #[.int .i64 z] W λe w'=>e=.returned (errV z)/\w'=W):=hI λW=>zD0 z W
 obtain ⟨ev,hev⟩:∃ev,errV z=ev:=⟨_,rfl⟩;rw [hev] at HF ⊢;clear hr hl hs h htn hvn hT ho hp hev
 go_enter func63,ntmps63
 go_wp2_with fail
 go_region_held3 (λW=>W.cell? ⟨B,2,none⟩=some (.slice A tn c)/\W.cell? ⟨B,3,none⟩=some (.string o))
  (first | exact HKP.out _ (Below.refl _ _).drew | exact HKP.out _ (stp (Below.refl _ _).drew hb1))
  ((go_at_call 15;(with_reducible refine (HC.out _ (Below.refl _ _).drew).mono ?_);rintro e1 w1 ⟨A2,c2,rfl,hi,hb1⟩))
 have hb1:=stp (Below.refl _ _).drew hb1;have HP1:=hI (HP.out.on hb1);have HB1:=hI hb1;have HI:=hI hi;have q2:=zAA w1 B 2 _ _ _ HP1.out;have f2:=zAY w1 B 2 _ _ HP1.out;clear hb1 hi
 go_wp2_with (first
  | (go_at_call 100;(with_reducible refine (HF.out _).mono ?_);rintro e2 w2 ⟨rfl,rfl⟩)
  | fail)
 first | go_ret | go_returns
 exact ⟨rfl,⟨s,a,n,c1,A2,c2,by rw [HVN.out];exact HP1.out.set2 A2 vn c2,HP1.out.nds HI.out (But.set _ _ _ _)⟩,zFl HB1.out B 2 _⟩
theorem zGe (B:Nat) (o:ByteArray) (v:List Nd) (w:World) (hp:TrB B o v w) (hl:v.length<=9223372036854775807) (hs:v.length<=512->∀m∈v,zAV m) (ts:List Tk) (z:Int) (h:zAw v=(ts,z)) :
 Calls prog 64 #[.pointer (some ⟨B,0,none⟩)] w λe w'=>e=.returned (errV z)/\TkB B o ts w'∧w.grownBy w' (some B):=by
 obtain ⟨s,a,n,c1,A,c,hp,hr⟩:=hp;obtain ⟨tn,htn⟩:∃tn,v.length=tn:=⟨_,rfl⟩;obtain ⟨vn,hvn⟩:∃vn,ts.length=vn:=⟨_,rfl⟩;have HVN:=hI hvn;rw [htn] at hp;have HC:Hid (Calls prog 101 #[.slice A tn c] w λe w'=>∃A c,e=.returned (.tuple #[.slice A vn c,.int .i64 z])/\RdC TkC w' w'.heap.size A ts/\Below w.heap.size w w'):=hI ((zPG A tn c v w hr htn (by omega) (λh5=>hs (by omega))).mono λe w' h2=>h2.with2 h hvn);have HP:=hI hp;have k0:=zAA w B 0 _ _ _ hp;have k1:=zAA w B 1 _ _ _ hp;have k2:=zAA w B 2 _ _ _ hp;have k3:=zAA w B 3 _ _ _ hp;have hB:=zAc hp;have HF:Hid (∀W:World,Calls prog 100 #[.int .i64 z] W λe w'=>e=.returned (errV z)/\w'=W):=hI λW=>zD0 z W
 obtain ⟨ev,hev⟩:∃ev,errV z=ev:=⟨_,rfl⟩;rw [hev] at HF ⊢;clear hr hl hs h htn hvn hp hev
 go_enter func64,ntmps64
 go_wp2_with (first
  | (go_at_call 101;(with_reducible refine (HC.out).mono ?_);rintro e1 w1 ⟨A2,c2,rfl,hi,hb1⟩;have HP1:=hI (HP.out.on hb1);have HB1:=hI hb1;have HI:=hI hi;clear hi;have q1:=zAA w1 B 1 _ _ _ HP1.out;have f1:=zAY w1 B 1 _ _ HP1.out;clear hb1)
  | (go_at_call 100;(with_reducible refine (HF.out _).mono ?_);rintro e2 w2 ⟨rfl,rfl⟩)
  | fail)
 first | go_ret | go_returns
 exact ⟨rfl,⟨s,A2,c2,A,tn,c,by rw [HVN.out];exact HP1.out.set1 A2 vn c2,HP1.out.tks HI.out (But.set _ _ _ _)⟩,zFl HB1.out B 1 _⟩
theorem zJs (B:Nat) (o:ByteArray) (ts:List Tk) (w:World) (hp:TkB B o ts w) (hl:ts.length<=512) (hs:∀t∈ts,zCn t) (x:ByteArray) (z:Int) (h:zCj ts=(x.data.toList,z)) :
 Calls prog 65 #[.pointer (some ⟨B,0,none⟩)] w λe w'=>e=.returned (errV z)/\TxB B x o w'∧w.grownBy w' (some B):=by
 obtain ⟨s,A,c,a1,n1,c1,hp,hr⟩:=hp;obtain ⟨tn,htn⟩:∃tn,ts.length=tn:=⟨_,rfl⟩;rw [htn] at hp;have HC:Hid (Calls prog 102 #[.slice A tn c] w λe w'=>e=.returned (.tuple #[.string x,.int .i64 z])/\Below w.heap.size w w'):=hI (zSI A tn c ts w hr htn (by omega) hs x z h);have HP:=hI hp;have k0:=zAA w B 0 _ _ _ hp;have k1:=zAA w B 1 _ _ _ hp;have k2:=zAA w B 2 _ _ _ hp;have k3:=zAA w B 3 _ _ _ hp;have hB:=zAc hp;have HF:Hid (∀W:World,Calls prog 100 #[.int .i64 z] W λe w'=>e=.returned (errV z)/\w'=W):=hI λW=>zD0 z W
 obtain ⟨ev,hev⟩:∃ev,errV z=ev:=⟨_,rfl⟩;rw [hev] at HF ⊢;clear hr hl hs h htn hp hev
 go_enter func65,ntmps65
 go_wp2_with (first
  | (go_at_call 102;(with_reducible refine (HC.out).mono ?_);rintro e1 w1 ⟨rfl,hb1⟩;have HP1:=hI (HP.out.on hb1);have HB1:=hI hb1;have q0:=zAA w1 B 0 _ _ _ HP1.out;have f0:=zAY w1 B 0 _ _ HP1.out;clear hb1)
  | (go_at_call 100;(with_reducible refine (HF.out _).mono ?_);rintro e2 w2 ⟨rfl,rfl⟩)
  | fail)
 first | go_ret | go_returns
 exact ⟨rfl,⟨A,tn,c,a1,n1,c1,HP1.out.set0 x⟩,zFl HB1.out B 0 _⟩
end Hx
namespace Hx
open Lx Tr Tx Nmb Es
theorem zFx {n:Nd} (h:zAV n):zCn ⟨4,[],[],n.text⟩:=⟨Nat.zero_le _,h.text,Nat.zero_le _,λp hp=>(by cases hp)⟩
theorem zHn {n:Nd} (k:Nat) (h:zAV n):zCn ⟨k,n.name,zAz n.attrs,[]⟩:=⟨h.name,Nat.zero_le _,by show (zAz n.attrs).length<=_;unfold zAz;rw [List.length_map];exact h.attrs,λp hp=>by
 have hp:p∈zAz n.attrs:=hp;unfold zAz at hp;obtain ⟨a,ha,rfl⟩:=List.mem_map.1 hp;exact ⟨(h.each a ha).2.1,(h.each a ha).2.2⟩⟩
theorem zNE {n:Nd} (h:zAV n):zCn ⟨2,n.name,[],[]⟩:=⟨h.name,Nat.zero_le _,Nat.zero_le _,λp hp=>(by cases hp)⟩
theorem zJH {g:List Nd->List Tk × List Nd} (hg:∀l,(∀n∈l,zAV n)->(∀t∈(g l).1,zCn t)/\∀n∈(g l).2,n∈l):∀(k:Nat) (l:List Nd),(∀n∈l,zAV n)->(∀t∈(zBJ g k l).1,zCn t)/\∀n∈(zBJ g k l).2,n∈l:=by
 intro k
 induction k with
 | zero=>intro l _;exact ⟨λt ht=>by simp [zBJ] at ht,λn hn=>by simpa [zBJ] using hn⟩
 | succ k ih =>
  intro l hl;obtain ⟨h1,h2⟩:=hg l hl;obtain ⟨h3,h4⟩:=ih (g l).2 λn hn=>hl n (h2 n hn)
  rw [zBJ];refine ⟨λt ht=>?_,λn hn=>h2 n (h4 n hn)⟩;rcases List.mem_append.1 ht with ht | ht
  · exact h1 t ht
  · exact h3 t ht
theorem zJG:∀(d:Nat) (l:List Nd),(∀n∈l,zAV n)->(∀t∈(zAn d l).1,zCn t)/\∀n∈(zAn d l).2,n∈l:=by
 have none:∀d,zAn d []=([],[]):=λd=>by rw [zAn]
 intro d
 induction d with
 | zero =>
  intro l hl
  cases l with
  | nil=>rw [none];exact ⟨λt ht=>(by cases ht),λn hn=>(by cases hn)⟩
  | cons n l =>
   rw [zAn];exact ⟨λt ht=>by obtain rfl:=List.mem_singleton.1 ht;exact zFx (hl n List.mem_cons_self),λm hm=>List.mem_cons_of_mem _ hm⟩
 | succ d ih =>
  intro l hl
  cases l with
  | nil=>rw [none];exact ⟨λt ht=>(by cases ht),λn hn=>(by cases hn)⟩
  | cons n l =>
   have hn:=hl n List.mem_cons_self;rw [zAn]
   by_cases hk:n.kind=2
   · rw [if_pos hk]
     exact ⟨λt ht=>by obtain rfl:=List.mem_singleton.1 ht;exact zFx hn,λm hm=>List.mem_cons_of_mem _ hm⟩
   · rw [if_neg hk]
     by_cases hm:n.many=0
     · rw [if_pos hm]
       exact ⟨λt ht=>by obtain rfl:=List.mem_singleton.1 ht;exact zHn 3 hn,λm hm=>List.mem_cons_of_mem _ hm⟩
     · rw [if_neg hm]
       obtain ⟨h1,h2⟩:=zJH ih n.many.toNat l λm hm=>hl m (List.mem_cons_of_mem _ hm)
       refine ⟨λt ht=>?_,λm hm=>List.mem_cons_of_mem _ (h2 m hm)⟩;rcases List.mem_cons.1 ht with rfl | ht
       · exact zHn 1 hn
       · rcases List.mem_append.1 ht with ht | ht
         · exact h1 t ht
         · obtain rfl:=List.mem_singleton.1 ht
           exact zNE hn
theorem zFy {v:List Nd} {ts:List Tk} (h:zAw v=(ts,0)) (hv:∀n∈v,zAV n):ts.length<=512/\∀t∈ts,zCn t:=by
 unfold zAw at h
 split at h
 · split at h
   · have:=congrArg Prod.snd h
     cases this
   · obtain ⟨rfl,_⟩:=(Prod.mk.injEq _ _ _ _).mp h
     exact ⟨by omega,(zJG 12 v hv).1⟩
 · have:=congrArg Prod.snd h
   cases this
end Hx
namespace Hx
open Lx Tr Tx Nmb Es Ns
def zFC (s:List UInt8):List Nd × Int:=if (zEJ s).2=0 then zA7 (zEJ s).1 else ([],(zEJ s).2)
def zBS (v:List Nd) (o:List UInt8):List UInt8 × Int:=if (zB5 v o).2=0 then (if (zAw (zB5 v o).1).2=0 then zCj (zAw (zB5 v o).1).1 else ([],(zAw (zB5 v o).1).2)) else ([],(zB5 v o).2)
def zCv (s:List UInt8):List UInt8 × Int:=if (zFC s).2=0 then zBS (zFC s).1 [] else ([],(zFC s).2)
theorem zFv {s:List UInt8} {ts:List Tk} {k er:Int} (h:lexR s=(ts,k,er)):zEJ s=if er=0 then zBO ts else ([],er):=by
 unfold zEJ;rw [h]
theorem zFD {s:List UInt8} {v:List Nd} {q:Int} (h:zEJ s=(v,q)):zFC s=if q=0 then zA7 v else ([],q):=by
 unfold zFC;rw [h]
theorem zBw {v:List Nd} {o:List UInt8} {x:List Nd} {e:Int} (h:zB5 v o=(x,e)):zBS v o=if e=0 then (if (zAw x).2=0 then zCj (zAw x).1 else ([],(zAw x).2)) else ([],e):=by
 unfold zBS;rw [h]
theorem zD5 {v:List Nd} {o:List UInt8} {x:List Nd} {ts:List Tk} {f:Int} (h:zB5 v o=(x,0)) (ht:zAw x=(ts,f)):zBS v o=if f=0 then zCj ts else ([],f):=by
 rw [zBw h,if_pos rfl,ht]
theorem zD4 {s:List UInt8} {v:List Nd} {q:Int} (h:zFC s=(v,q)):zCv s=if q=0 then zBS v [] else ([],q):=by
 unfold zCv;rw [h]
theorem zL9 {l:List Tk} {x:List UInt8} {e:Int} (h:zCj l=(x,e)) (he:e≠0):x=[]:=by
 unfold zCj at h
 split at h
 · split at h
   · exact ((Prod.mk.injEq _ _ _ _).mp h).1.symm
   · exact absurd ((Prod.mk.injEq _ _ _ _).mp h).2.symm he
 · exact ((Prod.mk.injEq _ _ _ _).mp h).1.symm
theorem zMA {l:List Tk} {x:List UInt8} {e:Int} (h:zCj l=(x,e)):x.length<=16384:=by
 unfold zCj at h
 split at h
 · split at h
   · rw [←((Prod.mk.injEq _ _ _ _).mp h).1];exact Nat.zero_le _
   · rw [←((Prod.mk.injEq _ _ _ _).mp h).1];omega
 · rw [←((Prod.mk.injEq _ _ _ _).mp h).1];exact Nat.zero_le _
theorem zFp {v:List Nd} {o s:List UInt8} (h:zBS v o=(s,0)):∃a ts,zB5 v o=(a,0)/\zAw a=(ts,0)/\zCj ts=(s,0):=by
 obtain ⟨a,e,ha⟩:∃a e,zB5 v o=(a,e):=⟨_,_,rfl⟩;rw [zBw ha] at h
 by_cases he:e=0
 · subst he
   rw [if_pos rfl] at h;obtain ⟨ts,f,ht⟩:∃ts f,zAw a=(ts,f):=⟨_,_,rfl⟩;rw [ht] at h;dsimp only at h
   by_cases hf:f=0
   · subst hf
     rw [if_pos rfl] at h;exact ⟨a,ts,ha,ht,h⟩
   · rw [if_neg hf] at h
     exact absurd ((Prod.mk.injEq _ _ _ _).mp h).2 hf
 · rw [if_neg he] at h
   exact absurd ((Prod.mk.injEq _ _ _ _).mp h).2 he
theorem zDP {v:List Nd} {o s:List UInt8} {z:Int} (h:zBS v o=(s,z)) (hz:z≠0):s=[]:=by
 obtain ⟨a,e,ha⟩:∃a e,zB5 v o=(a,e):=⟨_,_,rfl⟩;rw [zBw ha] at h
 split at h
 · split at h
   · exact zL9 h hz
   · exact ((Prod.mk.injEq _ _ _ _).mp h).1.symm
 · exact ((Prod.mk.injEq _ _ _ _).mp h).1.symm
theorem zFF {v:List Nd} {o s:List UInt8} {z:Int} (h:zBS v o=(s,z)):s.length<=16384:=by
 by_cases hz:z=0
 · subst hz
   obtain ⟨_,_,_,_,hj⟩:=zFp h;exact zMA hj
 · rw [zDP h hz];exact Nat.zero_le _
theorem zIi {s x:List UInt8} {z:Int} (h:zCv s=(x,z)) (hz:z≠0):x=[]:=by
 unfold zCv at h
 split at h
 · exact zDP h hz
 · exact ((Prod.mk.injEq _ _ _ _).mp h).1.symm
structure TkU (k:Nat) (t:Tk):Prop where
 name:t.name.length<=k
 text:t.text.length<=k
 attrs:t.attrs.length<=16
 each:∀p∈t.attrs,p.name.length<=k/\p.value.length<=k
theorem TkU.to {k:Nat} {t:Tk} (h:TkU k t) (hk:k<=1000000):zCn t :=
 ⟨Nat.le_trans h.name hk,Nat.le_trans h.text hk,Nat.le_trans h.attrs (by decide),λp hp=>⟨Nat.le_trans (h.each p hp).1 hk,Nat.le_trans (h.each p hp).2 hk⟩⟩
theorem zQ5 {k:Nat} {t:Tk} (h:mayT t=true) (ha:t.attrs.length<=16) (hl:(zAK t).length<=k):TkU k t:=by
 rcases zCZ h with ⟨b,hk,h1,h2,h3⟩ | ⟨hk,h1,h2,h3⟩ | ⟨hk,h1,h2,h3,h4⟩
 · unfold zAK at hl
   rw [if_neg (by rw [hk];cases b <;> decide),if_neg (by rw [hk];cases b <;> decide)] at hl;simp only [List.length_cons,List.length_append] at hl;refine ⟨by omega,by rw [h3];exact Nat.zero_le _,ha,λp hp=>?_⟩;have k1:=zGG zBx _ p hp;have k2:=zNq p
   omega
 · unfold zAK at hl
   rw [if_neg (by omega),if_pos hk] at hl;simp only [List.length_cons,List.length_append,List.length_nil] at hl;exact ⟨by omega,by rw [h3];exact Nat.zero_le _,ha,by rw [h2];simp⟩
 · unfold zAK at hl
   rw [if_pos hk] at hl;have:=(zC1 false t.text).1;exact ⟨by rw [h1];exact Nat.zero_le _,by omega,ha,by rw [h2];simp⟩
theorem zMH {l:List UInt8} {ts:List Tk} {n er:Int} (h:lexR l=(ts,n,er)):ts.length<=512/\∀t∈ts,TkU 100000 t:=by
 by_cases h0:er=0
 · subst h0
   obtain ⟨_,hI,hP,h16,h512,hat⟩:=zQV h;obtain ⟨k1,k2,k3⟩:=hI.text hP h16;refine ⟨h512,λt ht=>?_⟩;have:=zGG zAK ts t ht;exact zQ5 (k1 t ht (hat t ht)) (hat t ht) (by omega)
 · rw [(zOS h h0).1]
   exact ⟨Nat.zero_le _,λt ht=>by cases ht⟩
theorem zNG {P:Nd->Prop} (hb:∀n,P n->P (zCg n)) {s s':PS} {b:Bool} {t:Tk} (h:∀n∈s.V,P n) (ht:P (zA3 t)) (hs:zBU s b t=.ok s'):∀n∈s'.V,P n:=by
 have hnew:∀n∈bump s.O s.V++[zA3 t],P n:=λn hn=>by
  rcases List.mem_append.1 hn with hn | hn
  · unfold bump at hn
    split at hn
    · exact h n hn
    · obtain ⟨j,hj,e⟩:=List.getElem_of_mem hn
      rw [List.getElem_modify] at e;rw [List.length_modify] at hj;have h9:=h _ (List.getElem_mem hj)
      split at e
      · rw [←e];exact hb _ h9
      · rw [←e];exact h9
  · obtain rfl:=List.mem_singleton.1 hn
    exact ht
 unfold zBU at hs
 split at hs
 · split at hs
   · cases hs
   · split at hs
     · split at hs
       · injection hs with hs;subst hs;exact h
       · cases hs
     · injection hs with hs
       subst hs;exact hnew
 · split at hs
   · split at hs
     · cases hs
     · split at hs
       · injection hs with hs
         subst hs;exact h
       · cases hs
   · split at hs
     · cases hs
     · split at hs
       · cases hs
       · injection hs with hs
         subst hs;exact hnew
theorem zKB {P:Nd->Prop} (hb:∀n,P n->P (zCg n)):∀(l:List Tk) (s s':PS) (b:Bool),(∀n∈s.V,P n)->(∀t∈l,P (zA3 t))->runP s b l=.ok s'->∀n∈s'.V,P n
 | [],s,s',b,h,_,hr=>by
  rw [runP] at hr;injection hr with hr;subst hr;exact h
 | t::l,s,s',b,h,hl,hr=>by
  rw [runP] at hr
  cases hx:zBU s b t with
  | error e=>rw [hx] at hr;cases hr
  | ok s2 =>
   rw [hx] at hr;exact zKB hb l s2 s' _ (zNG hb h (hl t List.mem_cons_self) hx) (λt ht=>hl t (List.mem_cons_of_mem _ ht)) hr
theorem zKl {P:Nd->Prop} (hb:∀n,P n->P (zCg n)) {l:List Tk} {v:List Nd} {z:Int} (h:zBO l=(v,z)) (hl:∀t∈l,P (zA3 t)):∀n∈v,P n:=by
 by_cases hz:z=0
 · subst hz
   unfold zBO at h
   split at h
   · have:=congrArg Prod.snd h
     cases this
   · split at h
     · cases hx:runP ⟨[],[]⟩ false l with
       | error e =>
        rw [hx] at h;have h1:([],e)=(v,(0:Int)):=h;rw [((Prod.mk.injEq _ _ _ _).mp h1).1.symm];exact λn hn=>(by cases hn)
       | ok s =>
        rw [hx] at h;unfold endP at h;dsimp only at h
        split at h
        · have:=congrArg Prod.snd h
          cases this
        · rw [←((Prod.mk.injEq _ _ _ _).mp h).1]
          exact zKB hb l _ s false (λn hn=>(by cases hn)) hl hx
     · have:=congrArg Prod.snd h
       cases this
 · rw [(zHW h hz).1]
   exact λn hn=>by cases hn
theorem zOh {k:Nat} {t:Tk} (h:TkU k t):zA5 k (zA3 t)/\(zA3 t).attrs.length<=16:=by
 unfold zA3
 split
 · exact ⟨⟨Nat.zero_le _,Nat.zero_le _,h.text,Nat.zero_le _,λa ha=>(by cases ha)⟩,Nat.zero_le _⟩
 · have hl:(zAp t.attrs).length<=16:=by unfold zAp;rw [List.length_map];exact h.attrs
   refine ⟨⟨Nat.zero_le _,h.name,Nat.zero_le _,Nat.le_trans hl (by decide),λa ha=>?_⟩,hl⟩;have ha:a∈zAp t.attrs:=ha;unfold zAp at ha;obtain ⟨p,hp,rfl⟩:=List.mem_map.1 ha;exact ⟨Nat.zero_le _,(h.each p hp).1,(h.each p hp).2⟩
theorem zHV {k:Nat} {l:List Tk} {v:List Nd} {z:Int} (h:zBO l=(v,z)) (hl:∀t∈l,TkU k t):∀n∈v,zA5 k n :=
 zKl (P:=zA5 k) (λn hn=>⟨hn.space,hn.name,hn.text,hn.attrs,hn.each⟩) h λt ht=>(zOh (hl t ht)).1
theorem zFt {l:List Tk} {v:List Nd} {z:Int} (h:zBO l=(v,z)):v.length<=512:=by
 by_cases hz:z=0
 · subst hz
   obtain ⟨_,_,h3,_,_,h6⟩:=zMf h
   omega
 · rw [(zHW h hz).1]
   exact Nat.zero_le _
theorem zMq {s:List UInt8} {v:List Nd} {z:Int} (h:zEJ s=(v,z)):v.length<=512/\∀n∈v,zA5 100000 n:=by
 obtain ⟨ts,k,er,hl⟩:∃ts k er,lexR s=(ts,k,er):=⟨_,_,_,rfl⟩;rw [zFv hl] at h
 split at h
 · exact ⟨zFt h,zHV h (zMH hl).2⟩
 · rw [←((Prod.mk.injEq _ _ _ _).mp h).1]
   exact ⟨Nat.zero_le _,λn hn=>by cases hn⟩
theorem zHg {v l:List Nd} {z:Int} (h:zA7 v=(l,z)) (hv:v.length<=512):l.length<=512:=by
 by_cases hz:z=0
 · subst hz
   rw [(zQv h).2.1];exact hv
 · rw [(zQu h hz).1]
   exact Nat.zero_le _
theorem zMU {s:List UInt8} {v:List Nd} {z:Int} (h:zFC s=(v,z)):v.length<=512/\∀n∈v,zA5 100000 n:=by
 obtain ⟨u,q,hu⟩:∃u q,zEJ s=(u,q):=⟨_,_,rfl⟩;obtain ⟨h1,h2⟩:=zMq hu;rw [zFD hu] at h
 split at h
 · exact ⟨zHg h h1,zFZ (by decide) h2 h⟩
 · rw [←((Prod.mk.injEq _ _ _ _).mp h).1]
   exact ⟨Nat.zero_le _,λn hn=>by cases hn⟩
end Hx
section
open Go.RowKit Go.Extern.Stop Go.Stop Go.Extern
namespace Hx
theorem zAo (t:Value) (w:World):Calls prog 99 #[.nilIface,t] w λe w'=>e=.returned (.bool false)/\w'=w:=by
 go_enter func99,ntmps99
 go_wp2
 go_ret
 exact ⟨rfl,rfl⟩
theorem vP (t:Addr) (w:World):(ReflectliteValue.unpack (.iface 120 (.pointer (some t)))).run prog w
 =.ok (.agg #[.pointer (some ⟨9,120,none⟩),.pointer (some ⟨w.heap.size,0,none⟩),.int .u64 150]) (w.alloc (.cells #[.pointer (some t)] 120)):=by kernel_rfl
theorem tP (a : Addr) (w : World) : (ReflectliteValue.methodAny (ReflectliteValue.valueError "reflectlite.Value.Type" 0) (λt _ _ _ => ReflectliteType.toType t) #[.agg #[.pointer (some ⟨9, 120, none⟩), .pointer (some a), .int .u64 150]]).run prog w
 =.ok (.iface 192 (.agg #[.pointer (some ⟨9,120,none⟩)])) w:=by kernel_rfl
theorem kP (w:World):((ReflectliteType.abiMethod λt=>(λa:Nat=>Value.int IntKind.u8 (a:Int)) <$> Rtype.kind t) #[.pointer (some ⟨9,120,none⟩)]).run prog w=.ok (.int .u8 22) w:=by kernel_rfl
theorem kE (w:World):((ReflectliteType.abiMethod λt=>(λa:Nat=>Value.int IntKind.u8 (a:Int)) <$> Rtype.kind t) #[.pointer (some ⟨9,25,none⟩)]).run prog w=.ok (.int .u8 2) w:=by kernel_rfl
theorem eP (w:World):(ReflectliteType.method ReflectliteType.elem #[.agg #[.pointer (some ⟨9,120,none⟩)]]).run prog w=.ok (.iface 192 (.agg #[.pointer (some ⟨9,25,none⟩)])) w:=by kernel_rfl
theorem iE (w : World) : (ReflectliteType.relation "Implements" ReflectliteType.implements_ #[.agg #[.pointer (some ⟨9, 25, none⟩)], .iface 192 (.agg #[.pointer (some ⟨9, 119, none⟩)])]).run prog w = .ok (.bool true) w := by kernel_rfl
theorem oE (v:Value) (w:World):(ReflectliteType.typeOf #[.iface 25 v]).run prog w=.ok (.iface 192 (.agg #[.pointer (some ⟨9,25,none⟩)])) w:=by kernel_rfl
theorem aE (w : World) : (ReflectliteType.relation "AssignableTo" ReflectliteType.assignableTo #[.agg #[.pointer (some ⟨9, 25, none⟩)], .iface 192 (.agg #[.pointer (some ⟨9, 25, none⟩)])]).run prog w = .ok (.bool true) w := by kernel_rfl
theorem vE (z:Int) (w:World):(ReflectliteValue.unpack (.iface 25 (.int .i64 z))).run prog w
 =.ok (.agg #[.pointer (some ⟨9,25,none⟩),.pointer (some ⟨w.heap.size,0,none⟩),.int .u64 130]) (w.alloc (.cells #[.int .i64 z] 25)):=by kernel_rfl
end Hx
end
end Go.Proofs.YtlgppednjkbgiaaGreatDoor
