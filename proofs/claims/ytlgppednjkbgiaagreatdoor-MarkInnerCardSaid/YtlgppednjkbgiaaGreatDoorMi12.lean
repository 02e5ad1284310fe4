/- Texts put together. -/
import Derived.Test.YtlgppednjkbgiaaGreatDoorMiA
import Derived.Test.YtlgppednjkbgiaaGreatDoorMi11
import Derived.Test.YtlgppednjkbgiaaGreatDoorMi04
import Derived.Test.YtlgppednjkbgiaaGreatDoorMi07
import Derived.Maps.AppendAt
set_option maxRecDepth 100000
set_option maxHeartbeats 16000000
set_option linter.unusedVariables false
namespace Go.Proofs.YtlgppednjkbgiaaGreatDoor
open Go.RowKit Go.Proofs.Tryz
namespace Hx
open Lx Tr Tx Nmb Es
theorem zN1 {v:List Nd} {i:Int} (h:mayV v=false):zBA v i=8:=by unfold zBA;rw [h];rfl
theorem zJT {v:List Nd} {i:Int} (h:mayV v=true) (hi:i < 0∨(v.length:Int)≤i):zBA v i=2:=by unfold zBA;rw [if_pos h,if_pos hi]
theorem zN0 {v:List Nd} {i:Int} (h:mayV v=true) (h0:0≤i) (h1:i < (v.length:Int)):zBA v i=0:=by unfold zBA;rw [if_pos h,if_neg (by omega)]
theorem zDw {v:List Nd} (h:mayV v=true):zDH v=0:=by unfold zDH;rw [if_pos h]
theorem zEs {v:List Nd} (h:mayV v=false):zDH v=8:=by unfold zDH;rw [h];rfl
theorem zMj (A:Option Addr) (n c:Nat) (v:List Nd) (i:Int) (w:World) (hr:RdB NdS w A v) (hn:v.length=n) (hmax:n≤9223372036854775807) (hsm:n≤512→∀m∈v,zAV m) (q:Int) (hq:zBA v i=q) :
 Calls prog 73 #[.slice A n c,.int .i64 i] w fun e w'=>e=.returned (.int .i64 q)∧Below w.heap.size w w':=by
 have bn:(n:Int)≤9223372036854775807:=by omega
 cases hm:mayV v with
 | false =>
  rw [zN1 hm] at hq;subst hq;have HC:=hI (zEt A n c v w hr hn hmax hsm 8 (zEs hm));clear hr hn hmax hsm hm
  go_enter func73,ntmps73
  go_wp2_with (first
   | (go_at_call 36;(with_reducible refine (HC.out).mono ?_);rintro e1 w1 ⟨rfl,hb1⟩)
   | fail)
  go_ret
  exact ⟨rfl,hb1⟩
 | true =>
  have HC:=hI (zEt A n c v w hr hn hmax hsm 0 (zDw hm))
  by_cases h0:i < 0
  · rw [zJT hm (.inl h0)] at hq
    subst hq;have f0:decide (i < 0)=true:=decide_eq_true h0;clear hr hn hmax hsm hm
    go_enter func73,ntmps73
    go_wp2_with (first
     | (go_at_call 36;(with_reducible refine (HC.out).mono ?_);rintro e1 w1 ⟨rfl,hb1⟩)
     | fail)
    go_ret
    exact ⟨rfl,hb1⟩
  · have f0:decide (i < 0)=false:=decide_eq_false h0
    by_cases h1:(n:Int)≤i
    · rw [zJT hm (.inr (by omega))] at hq
      subst hq;have f1:decide ((n:Int)≤i)=true:=decide_eq_true h1;clear hr hn hmax hsm hm h0
      go_enter func73,ntmps73
      go_wp2_with (first
       | (go_at_call 36;(with_reducible refine (HC.out).mono ?_);rintro e1 w1 ⟨rfl,hb1⟩)
       | fail)
      go_ret
      exact ⟨rfl,hb1⟩
    · rw [zN0 hm (by omega) (by omega)] at hq
      subst hq;have f1:decide ((n:Int)≤i)=false:=decide_eq_false h1;clear hr hn hmax hsm hm h0 h1
      go_enter func73,ntmps73
      go_wp2_with (first
       | (go_at_call 36;(with_reducible refine (HC.out).mono ?_);rintro e1 w1 ⟨rfl,hb1⟩)
       | fail)
      go_ret
      exact ⟨rfl,hb1⟩
theorem zCu {d j m:Nat} {b b0:Bool} {l r0:List Nd} {v:List Nd} {p':Nat} (hall:zAF (zAD d) m false l=some (b0,r0)) (h:zAF (zAD d) j false l=some (b,v.drop p')) (hj:j < m) :
 ∃(hp:p' < v.length) (r:List Nd),zAD d (v.drop p')=some r∧zAF (zAD d) (j+1) false l=some (decide ((v[p']'hp).kind=2),v.drop (v.length - r.length))∧r.length+p' < v.length:=by
 obtain ⟨h1,h2⟩:=zHK h hj
 by_cases hp:p' < v.length
 · obtain ⟨h3,h4,h5⟩:=h2 hp
   have hb:¬(b=true∧(v[p']'hp).kind=2):=fun hb=>by rw [h3 hb] at hall;cases hall
   cases hr:zAD d (v.drop p') with
   | none=>rw [h4 hr] at hall;cases hall
   | some r =>
    have hk:=h5 r hb hr;have hsuf:=zDA hr;have hlr:=zCH hr;rw [List.length_drop] at hsuf hlr;rw [List.drop_drop,show p'+(v.length - p' - r.length)=v.length - r.length by omega] at hsuf;exact ⟨hp,r,rfl,by rw [hk,←hsuf],by omega⟩
 · rw [h1 (by omega)] at hall;cases hall
def zKv (gv gs:Nat):Value:=.func (.func 111) #[] #[.pointer (some ⟨gv,0,none⟩),.pointer (some ⟨gs,0,none⟩)]
structure Sk (gv gs:Nat) (A:Option Addr) (c:Nat) (v:List Nd) (w:World):Prop where
 hv:w.heap[gv]?=some (.cells #[.slice A v.length c] 22 (0,0))
 hs:w.heap[gs]?=some (.cells #[zKv gv gs] 141 (0,0))
 rd:RdB NdS w A v
def zPo (d:Nat) (gv gs:Nat) (A:Option Addr) (c:Nat) (v:List Nd) (w:World):Prop:=∀(p:Nat) (r:List Nd),p < v.length→zAD d (v.drop p)=some r →
 Calls prog 111 #[.int .i64 p,.pointer (some ⟨gv,0,none⟩),.pointer (some ⟨gs,0,none⟩)] w fun e w'=>e=.returned (.int .i64 ((v.length - r.length:Nat):Int))∧w'=w
theorem zHk (d:Nat) (gv gs:Nat) (A:Option Addr) (c:Nat) (v:List Nd) (w:World) (hl:v.length≤1000000) (hx:Sk gv gs A c v w) (ih:0 < d→zPo (d - 1) gv gs A c v w):zPo d gv gs A c v w:=by
 intro p r hp hr;obtain ⟨b0,off,x,y,t,A1,c1,hA,hbB,hin,q0,q1,q2,q3,q4,q5⟩:=zBz hx.rd hp;have hr':=hr;rw [List.drop_eq_getElem_cons hp] at hr';obtain ⟨hok,hm0,bb,hk⟩:=zBE hr'
 have hdd:0 < (v[p]'hp).many→0 < d:=by
  intro h
  cases d with
  | succ d=>omega
  | zero =>
   rw [zAD] at hr'
   by_cases hn:ndOk (v[p]'hp)=true∧(v[p]'hp).kind=2
   · have:=(zA6 hn.1 hn.2).1;omega
   · rw [if_neg hn] at hr';cases hr'
 have hlen:=zBX hk;rw [List.length_drop] at hlen;obtain ⟨mm,hmm⟩:∃mm,(v[p]'hp).many=mm:=⟨_,rfl⟩;rw [hmm] at q5 hm0 hk hlen hdd;have kv:=cell_of_one hx.hv;have ks:=cell_of_one hx.hs;unfold zKv at ks;have HK:=hI hk;have HIH:=hI ih;have HDD:=hI hdd;obtain ⟨m,hm⟩:∃m:Nat,mm=(m:Int):=⟨mm.toNat,by omega⟩;subst hm;rw [Int.toNat_natCast] at HK;have bm:(m:Int)≤1000000:=by omega
 have bp:(0:Int)≤(p:Int)∧(p:Int) < (v.length:Int):=by omega
 have bv:(v.length:Int)≤1000000:=by omega
 obtain ⟨n,hn⟩:∃n,v.length=n:=⟨_,rfl⟩;have HLN:=hI hn;have HPL:Hid (p < v.length):=hI hp;subst hA;rw [hn] at kv bp bv;obtain ⟨q,hq⟩:∃q,v.length - r.length=q:=⟨_,rfl⟩;have HQ:Hid (r.length+q=n∧q≤n):=hI (by have:=zCH hr;rw [List.length_drop] at this;omega);rw [hq];clear q0 q1 q2 q3 q4 hx hl hin hr hr' hok hk hlen ih hdd hmm hp hn hm0 hq
 go_enter func111,ntmps111
 go_wp2_with fail
 go_loopg [5,13] m (fun gg x5 i wr=>∃(j:Nat) (b:Bool) (p':Nat),j+gg=m∧i=.int .i64 j∧x5=.int .i64 p'∧zAF (zAD (d - 1)) j false (v.drop (p+1))=some (b,v.drop p')∧p'≤n∧wr=w)
 case atStart=>exact ⟨0,false,p+1,by omega,rfl,by go_num,by rw [zAF],by have:=HPL.out;have:=HLN.out;omega,rfl⟩
 case round =>
  obtain ⟨j,b,p',hjg,rfl,rfl,hkd,hpn,rfl⟩:=hrel;have bp2:(0:Int)≤(p':Int)∧(p':Int)≤(n:Int):=by omega
  by_cases hlt:j < m
  · have hlt2:(j:Int) < (m:Int):=by omega
    obtain ⟨hp2,r2,h1,h2,h3⟩:=zCu HK.out hkd hlt;have HC:=hI (HIH.out (HDD.out (by omega)) p' r2 hp2 h1);obtain ⟨p3,hp3⟩:∃p3,v.length - r2.length=p3:=⟨_,rfl⟩;rw [hp3] at HC h2;have H2:=hI h2;have HP3:Hid (p3≤n):=hI (by have:=HLN.out;omega);clear hkd h1 h2 h3 hp3
    go_wp2_with (first
     | (go_at_call 111;(with_reducible refine (HC.out).mono ?_);rintro e2 w2 ⟨rfl,rfl⟩)
     | fail)
    go_roundg (gk - 1)
    case measure=>omega
    case rel=>exact ⟨j+1,_,p3,by omega,by go_num,rfl,H2.out,HP3.out,rfl⟩
  · obtain rfl:j=m:=by omega
    have hjj:¬((j:Int) < (j:Int)):=by omega
    obtain rfl:p'=q:=(by
     have h9:=HK.out;rw [hkd] at h9;injection h9 with h9;injection h9 with _ h9;have h8:=congrArg List.length h9;rw [List.length_drop,HLN.out] at h8;have:=HQ.out
     omega)
    clear hkd
    go_wp2_with fail
    go_ret
    exact ⟨rfl,rfl⟩
theorem zO8 (gv gs:Nat) (A:Option Addr) (c:Nat) (v:List Nd) (w:World) (hl:v.length≤1000000) (hx:Sk gv gs A c v w):∀d,zPo d gv gs A c v w:=by
 intro d
 induction d with
 | zero=>exact zHk 0 gv gs A c v w hl hx (fun h=>by omega)
 | succ d ih=>exact zHk (d+1) gv gs A c v w hl hx (fun _=>ih)
theorem zQz {w:World} {A:Option Addr} {c:Nat} {v:List Nd} (hr:RdB NdS w A v) :
 Sk w.heap.size (w.heap.size+1) A c v ((w.alloc (.cells #[.slice A v.length c] 22)).alloc (.cells #[zKv w.heap.size (w.heap.size+1)] 141)):=by
 have h0:=heap_alloc_new w (.cells #[.slice A v.length c] 22);have h1:=heap_alloc_new (w.alloc (.cells #[.slice A v.length c] 22)) (.cells #[zKv w.heap.size (w.heap.size+1)] 141);rw [World.size_alloc] at h1;exact ⟨zAB h0 (stpA (Below.refl _ _) _),h1,hr.on (stpA (stpA (Below.refl w.heap.size w) _) _)⟩
theorem zJZ (A:Option Addr) (n c:Nat) (v:List Nd) (p d:Nat) (r:List Nd) (w:World) (hr:RdB NdS w A v) (hn:v.length=n) (hl:n≤1000000) (hp:p < n) (hrr:zAD d (v.drop p)=some r) (q:Nat) (hq:n - r.length=q) :
 Calls prog 75 #[.slice A n c,.int .i64 p] w fun e w'=>e=.returned (.int .i64 q)∧Below w.heap.size w w':=by
 have hmf:∀(fn:Fn) (first cap:Array Value) (w:World),(Instr.makeFunc fn first cap).run prog w=.ok (.func fn first cap) w:=fun _ _ _ _=>rfl
 have HBB:Hid (Below w.heap.size w ((w.alloc (.cells #[.slice A v.length c] 22)).alloc (.cells #[zKv w.heap.size (w.heap.size+1)] 141))):=hI (stpA (stpA (Below.refl _ _) _) _);have hc:=zO8 _ _ A c v _ (by omega) (zQz (c:=c) hr) d p r (by omega) hrr;rw [hn,hq] at hc;rw [hn] at HBB;unfold zKv at hc HBB;have HC:=hI hc;clear hr hn hrr hq hc
 go_enter func75,ntmps75
 go_wp2_with (first
  | (go_at_call 111;(with_reducible refine (HC.out).mono ?_);rintro e2 w2 ⟨rfl,rfl⟩)
  | fail)
 go_ret
 exact ⟨rfl,HBB.out⟩
theorem zIv {g:List Nd→Option (List Nd)} (hg:Tr.Loc g):∀(j p0:Nat) (b0 b:Bool) (l m:List Nd),zAF g j b0 l=some (b,m)→zBZ g (j+1) p0 l=zBZ g j p0 l++[p0+(l.length - m.length)]:=by
 intro j
 induction j with
 | zero =>
  intro p0 b0 b l m h;rw [zAF] at h;obtain ⟨rfl,rfl⟩:=(Prod.mk.injEq _ _ _ _).mp (Option.some.inj h);rw [zBZ,zBZ,Nat.sub_self]
  cases g l <;> rfl
 | succ j ih =>
  intro p0 b0 b l m h
  cases l with
  | nil=>rw [zAF] at h;cases h
  | cons n l =>
   rw [zAF] at h
   by_cases hb:b0=true∧n.kind=2
   · rw [if_pos hb] at h;cases h
   · rw [if_neg hb] at h
     cases hn:g (n::l) with
     | none=>rw [hn] at h;cases h
     | some y =>
      rw [hn] at h;obtain ⟨q,_,e1,_⟩:=hg _ _ hn;obtain ⟨q2,e2,_,_⟩:=zBB hg _ _ _ _ _ h;have l1:y.length≤(n::l).length:=by rw [e1,List.length_append];omega
      have l2:m.length≤y.length:=by rw [e2,List.length_append];omega
      have h3:=ih (p0+((n::l).length - y.length)) _ _ _ _ h;rw [zBZ,hn,zBZ,hn];show p0::zBZ g (j+1) (p0+((n::l).length - y.length)) y=p0::zBZ g j (p0+((n::l).length - y.length)) y++[p0+((n::l).length - m.length)];rw [h3,List.cons_append,show p0+((n::l).length - y.length)+(y.length - m.length)=p0+((n::l).length - m.length) by omega]
def zGq (l:List Nat) (w:World) (e:Ending) (w':World):Prop:=Below w.heap.size w w'∧∃A c,e=.returned (.slice A l.length c)∧(A=none→c=0)∧RdZ w' w'.heap.size A (zs l)∧w'.ownsRow w.heap.size 3 1 (.slice A l.length c) l.length ((zs l).map encZ)
theorem zGq.mk {l:List Nat} {w w':World} {A:Option Addr} {n c:Nat} (hb:Below w.heap.size w w') (hn:l.length=n) (h0:A=none→c=0) (hr:RdZ w' w'.heap.size A (zs l)) (ho:w'.ownsRow w.heap.size 3 1 (.slice A n c) l.length ((zs l).map encZ)):zGq l w (.returned (.slice A n c)) w':=⟨hb,A,c,by rw [hn],h0,hr,by rw [hn];rw [hn] at ho;exact ho⟩
theorem zOp {w:World} {b:Nat} {t:TypeId} {A:Option Addr} {n c:Nat} {l:List Value} (h:w.ownsRow b t 1 (.slice A n c) n l):A=none→c=0:=by
 intro hA;subst hA;rcases h.2 with ⟨e,_⟩ | ⟨g,cap,cur,e,_⟩
 · injection e with _ _ h3
 · injection e with h3 _ _
   cases h3
theorem zPK (A:Option Addr) (n c:Nat) (v:List Nd) (p:Nat) (r:List Nd) (w:World) (hr:RdB NdS w A v) (hn:v.length=n) (hl:n≤1000000) (hp:p < n) (hrr:zAD 12 (v.drop p)=some r) :
 Calls prog 74 #[.slice A n c,.int .i64 p] w (zGq (zCp v p) w):=by
 have hpv:p < v.length:=by omega
 obtain ⟨i0,hi,hz0,hz1,hz2⟩:=info_parts zQP;have QI:=hI hi;have QZ0:=hI hz0;have QZ1:=hI hz1;have QZ2:=hI hz2;obtain ⟨b0,off,x,y,t,A1,c1,hA,hbB,hin,q0,q1,q2,q3,q4,q5⟩:=zBz hr hpv;have hr':=hrr;rw [List.drop_eq_getElem_cons hpv] at hr';obtain ⟨hok,hm0,bb,hk0⟩:=zBE hr';have hk:=zEZ (e:=12) (by omega) hk0;clear hk0;have hlen:=zBX hk;rw [List.length_drop] at hlen;have hU:zCp v p=zBZ (zAD 12) (v[p]'hpv).many.toNat (p+1) (v.drop (p+1)):=by unfold zCp;rw [List.getElem?_eq_getElem hpv]
 obtain ⟨mm,hmm⟩:∃mm,(v[p]'hpv).many=mm:=⟨_,rfl⟩;rw [hmm] at q5 hm0 hk hlen hU;have HRB:=hI hr;have HBB:=hI hbB;obtain ⟨m,hm⟩:∃m:Nat,mm=(m:Int):=⟨mm.toNat,by omega⟩;subst hm;rw [Int.toNat_natCast] at hk hU;have HK:=hI hk;have HU:=hI hU;have bm:(m:Int)≤1000000:=by omega
 have bp:(0:Int)≤(p:Int)∧(p:Int) < (n:Int):=by omega
 have bv:(n:Int)≤1000000:=by omega
 have HLN:=hI hn;have HL:=hI hl;have HMN:Hid (m≤n∧p < v.length):=hI (by omega);subst hA;clear q0 q1 q2 q3 q4 hl hin hr hr' hok hk hlen hmm hp hn hm0 hU hrr hi hz0 hz1 hz2 hpv hbB
 go_enter func74,ntmps74
 go_wp2_with fail
 go_loopg [5,6,14] m (fun gg x5 x6 i wr=>∃(j:Nat) (b:Bool) (p':Nat) (l:List Nat),j+gg=m∧i=.int .i64 j∧x6=.int .i64 p'∧wr.ownsRow w.heap.size 3 1 x5 l.length ((zs l).map encZ)∧l=zBZ (zAD 12) j (p+1) (v.drop (p+1))∧l.length=j∧zAF (zAD 12) j false (v.drop (p+1))=some (b,v.drop p')∧p'≤n∧Below w.heap.size w wr)
 case atStart=>exact ⟨0,false,p+1,[],by omega,rfl,by go_num,World.ownsRow_nil _ _ _ _,by rw [zBZ],rfl,by rw [zAF],by have:=HMN.out;have:=HLN.out;omega,Below.refl _ _⟩
 case round =>
  obtain ⟨j,b,p',l,hjg,rfl,rfl,hown,hpl,hlj,hkd,hpn,hbw⟩:=hrel;have bp2:(0:Int)≤(p':Int)∧(p':Int)≤(n:Int):=by omega
  have HO:=hI hown;have HBW:=hI hbw
  by_cases hlt:j < m
  · have hlt2:(j:Int) < (m:Int):=by omega
    obtain ⟨hp2,r2,h1,h2,h3⟩:=zCu HK.out hkd hlt;obtain ⟨p3,hp3⟩:∃p3,v.length - r2.length=p3:=⟨_,rfl⟩;have hp3n:n - r2.length=p3:=by rw [←HLN.out];exact hp3
    have hnx:=zIv (zAZ 12) j (p+1) false b _ _ hkd
    rw [←hpl,List.length_drop,List.length_drop,show p+1+(v.length - (p+1) - (v.length - p'))=p' by
     have:=zBX hkd;rw [List.length_drop,List.length_drop] at this;have:=HMN.out
     omega] at hnx
    have HNX:=hI hnx.symm;have HLJ:=hI hlj;have hsw:=hbw.size;have HC:Hid (∀W,Below w.heap.size w W→Calls prog 75 #[.slice (some ⟨b0,off,none⟩) n c,.int .i64 p'] W fun e w'=>e=.returned (.int .i64 p3)∧Below W.heap.size W w'):=hI fun W hW=>zJZ _ n c v p' 12 r2 W (HRB.out.on hW) HLN.out HL.out (by have:=HLN.out;omega) h1 p3 hp3n
    rw [hp3] at h2;have H2:=hI h2;have HP3:Hid (p3≤n∧l.length≤1000000):=hI (by have:=HLN.out;omega);clear hkd h1 h2 h3 hp3 hp3n hown hbw hnx hpl hlj
    go_wp2_with (first
     | (at_builtin;refine zEF zOC rfl (.tmp 16) (.tmp 18) 57 rfl w.heap.size 3 i0 (.int .i64 0) 8 underlying57 QI.out QZ0.out QZ1.out QZ2.out (by decide) rfl _ l.length _ rfl (zHU HO.out (stpA (Below.refl wr.heap.size wr) (.cells #[.int .i64 p'] 3)) (Nat.le_refl _)) (wr.heap.size+1) (some ⟨wr.heap.size,0,none⟩) 1 1 [(p':Int)] rfl (RdG.new (enc:=encZ) wr 3 [(p':Int)]) rfl (fun h=>by cases h) (by have:=HP3.out;omega) (by rw [World.size_alloc];omega) ?_;intro v4 w4 hown4 hgr4;have HO4:=hI hown4;have HB4:Hid (Below w.heap.size w w4):=hI ((HBW.out.alloc (by omega) _).grown hgr4 (by rw [World.size_alloc];omega) (fun g hg=>(HO.out.lt g hg).1));clear hown4 hgr4)
     | (go_at_call 75;(with_reducible refine (HC.out _ HB4.out).mono ?_);rintro e2 w2 ⟨rfl,hb2⟩)
     | fail)
    have hb9:=stp HB4.out hb2;have HO9:=zHU HO4.out hb2 (Nat.le_refl _)
    go_roundg (gk - 1)
    case measure=>omega
    case rel =>
     refine ⟨j+1,_,p3,l++[p'],by omega,by go_num,rfl,?_,HNX.out,by rw [List.length_append,HLJ.out];rfl,H2.out,HP3.out.1,hb9⟩;rw [List.length_append,zNs,List.map_append];exact HO9
  · obtain rfl:j=m:=by omega
    have hjj:¬((j:Int) < (j:Int)):=by omega
    obtain ⟨A',c',rfl⟩:=zBa hown;have HRD:=hI (RdG.of_own hown).1;have HZN:=hI (zOp hown);have HOW:=hI hown;have HPL:=hI hpl;clear hkd hown hbw hpl hlj
    go_wp2_with fail
    go_ret
    rw [HU.out,←HPL.out];exact zGq.mk HBW.out rfl HZN.out HRD.out HOW.out
def zIf (v:List Nd) (i:Int):List Nat:=if zBA v i=0 then zCp v i.toNat else []
def zPN (l:List Nat) (q:Int) (w:World) (e:Ending) (w':World):Prop:=Below w.heap.size w w'∧∃A c,e=.returned (.tuple #[.slice A l.length c,.int .i64 q])∧(A=none→c=0)∧RdZ w' w'.heap.size A (zs l)
theorem zDr {v:List Nd} {i:Int} (h:zBA v i=0):mayV v=true∧0≤i∧i < (v.length:Int):=by
 unfold zBA at h
 by_cases hm:mayV v=true
 · rw [if_pos hm] at h
   by_cases hi:i < 0∨(v.length:Int)≤i
   · rw [if_pos hi] at h;cases h
   · exact ⟨hm,by omega,by omega⟩
 · rw [if_neg hm] at h;cases h
theorem zFd (v:List Nd) (i:Int):zBA v i=0∨zBA v i=2∨zBA v i=8:=by
 unfold zBA
 by_cases hm:mayV v=true
 · rw [if_pos hm]
   by_cases hi:i < 0∨(v.length:Int)≤i
   · rw [if_pos hi];exact .inr (.inl rfl)
   · rw [if_neg hi];exact .inl rfl
 · rw [if_neg hm];exact .inr (.inr rfl)
theorem zL0 {i:Int} (h:0≤i):∃p:Nat,i=(p:Int):=⟨i.toNat,by omega⟩
theorem zRV (A:Option Addr) (n c:Nat) (v:List Nd) (i:Int) (w:World) (hr:RdB NdS w A v) (hn:v.length=n) (hmax:n≤9223372036854775807) (hsm:n≤512→∀m∈v,zAV m) (q:Int) (hq:zBA v i=q) (l:List Nat) (hl:zIf v i=l) :
 Calls prog 34 #[.slice A n c,.int .i64 i] w (zPN l q w):=by
 have HC:=hI (zMj A n c v i w hr hn hmax hsm q hq)
 by_cases h0:q=0
 · subst h0
   obtain ⟨hm,h1,h2⟩:=zDr hq;have h5:=(zAj.1 hm).1;obtain ⟨p,rfl⟩:=zL0 h1;obtain ⟨r,hrr⟩:=zE9 hm (i:=p) (by omega);have hu:zCp v p=l:=by rw [←hl];unfold zIf;rw [if_pos hq,Int.toNat_natCast]
   have HW:Hid (∀W,Below w.heap.size w W→Calls prog 74 #[.slice A n c,.int .i64 p] W (zGq l W)):=hI fun W hW=>by
    rw [←hu];exact zPK A n c v p r W (hr.on hW) hn (by omega) (by omega) hrr
   clear hr hn hmax hsm hq hl hm h1 h2 h5 hrr hu
   go_enter func34,ntmps34
   go_wp2_with (first
    | (go_at_call 73;(with_reducible refine (HC.out).mono ?_);rintro e1 w1 ⟨rfl,hb1⟩;have HB1:=hI hb1;clear hb1)
    | (go_at_call 74;(with_reducible refine (HW.out _ HB1.out).mono ?_);rintro e2 w2 ⟨hb2,A2,c2,rfl,hz2,hr2,-⟩;have HB2:=hI hb2;have HZ2:=hI hz2;have HR2:=hI hr2;clear hb2 hz2 hr2)
    | fail)
   go_ret2
   exact ⟨stp HB1.out HB2.out,A2,c2,rfl,HZ2.out,HR2.out⟩
 · obtain rfl:l=[]:=by rw [←hl];unfold zIf;rw [if_neg (by omega)]
   have hv:=zFd v i;have hq2:q=2∨q=8:=by omega
   clear hr hn hmax hsm hq hl hv;rcases hq2 with rfl | rfl
   all_goals
    go_enter func34,ntmps34
    go_wp2_with (first
     | (go_at_call 73;(with_reducible refine (HC.out).mono ?_);rintro e1 w1 ⟨rfl,hb1⟩;have HB1:=hI hb1;clear hb1)
     | fail)
    go_ret2
    exact ⟨HB1.out,none,0,rfl,fun _=>rfl,RdG.nil _ _ _⟩
end Hx
namespace Hx
open Lx Tx Nmb Es
theorem zIS {acc:List Pr} {y:List UInt8} {b:Bool} {at1:List Pr} {r:List UInt8} (h:TagI acc y b at1 r):∃p,y=p++r:=by
 induction h with
 | shut acc g x _=>exact ⟨g++[62],by simp⟩
 | bare acc g x _=>exact ⟨g++[47,62],by simp⟩
 | attr acc g l y p b at1 x _ _ ha _ _ ih =>
  obtain ⟨q,rfl⟩:=ih;obtain ⟨k,_,e⟩:=zG0 ha;refine ⟨g++(l.take k++q),?_⟩
  conv=>lhs;rw [←List.take_append_drop k l,←e]
  simp
theorem zJE {l r:List UInt8} {t:Tk} (h:tagL l=some (t,r)):r.length≤l.length∧∃k,k≤l.length∧r=l.drop k:=by
 obtain ⟨p,rfl⟩:∃p,l=p++r:=by
  rcases (zEi _ _ _).1 h with ⟨g,rfl,_⟩ | ⟨b,y,rfl,_,hi,_⟩
  · exact ⟨47::(t.name++(g++[62])),by simp⟩
  · obtain ⟨q,rfl⟩:=zIS hi
    exact ⟨t.name++q,by simp⟩
 exact ⟨by simp,p.length,by simp,by rw [List.drop_left]⟩
theorem zME:∀(f g n:Nat) (l:List UInt8),l.length≤f→l.length≤g→lexE f n l=lexE g n l:=by
 intro f
 induction f with
 | zero =>
  intro g n l h1 h2;obtain rfl:=List.eq_nil_of_length_eq_zero (Nat.le_zero.1 h1)
  cases g <;> rfl
 | succ f ih =>
  intro g n l h1 h2
  cases l with
  | nil=>cases g <;> rfl
  | cons c l =>
   cases g with
   | zero=>simp at h2
   | succ g =>
    unfold lexE
    cases ho:oneL (c::l) with
    | none=>rfl
    | some r =>
     obtain ⟨t,y⟩:=r;have hl:=zC8 ho;rw [List.length_cons] at h1 h2 hl;dsimp only;rw [ih g (n+1) y (by omega) (by omega)]
def lexG (n:Nat) (l:List UInt8):Except (Int × Nat) (List Tk):=lexE l.length n l
theorem zHM {l:List UInt8} {p n:Nat} (hp:p < l.length) (h:oneL (l.drop p)=none):lexG n (l.drop p)=.error (if n=512 then 4 else 80,l.length - p):=by
 unfold lexG;have hl:(l.drop p).length=l.length - p:=List.length_drop
 cases hd:l.drop p with
 | nil=>rw [hd] at hl;simp at hl;omega
 | cons c x =>
  rw [hd] at h hl;rw [←hl,List.length_cons];unfold lexE;rw [h]
theorem zHL {l r:List UInt8} {t:Tk} {p n:Nat} (hp:p < l.length) (h:oneL (l.drop p)=some (t,r)) (hb:n=512∨16 < t.attrs.length):lexG n (l.drop p)=.error (4,l.length - p):=by
 unfold lexG;have hl:(l.drop p).length=l.length - p:=List.length_drop
 cases hd:l.drop p with
 | nil=>rw [hd] at hl;simp at hl;omega
 | cons c x =>
  rw [hd] at h hl;rw [←hl,List.length_cons];unfold lexE;rw [h];dsimp only;rw [if_pos hb]
theorem zMF {l r:List UInt8} {t:Tk} {p n:Nat} (hp:p < l.length) (h:oneL (l.drop p)=some (t,r)) (hb:¬(n=512∨16 < t.attrs.length)):lexG n (l.drop p)=(lexG (n+1) r).map (t::·):=by
 unfold lexG;have hl:(l.drop p).length=l.length - p:=List.length_drop
 cases hd:l.drop p with
 | nil=>rw [hd] at hl;simp at hl;omega
 | cons c x =>
  rw [hd] at h hl;have h2:=zC8 h;rw [List.length_cons] at h2 ⊢
  conv=>lhs;unfold lexE
  rw [h];dsimp only;rw [if_neg hb,zME x.length r.length (n+1) r (by omega) (Nat.le_refl _)]
theorem zMG {l:List UInt8} (h1:l.length≤16384) (h2:isP l=true):lexR l=(match lexG 0 l with | .ok ts=>(ts,0,0) | .error (e,k)=>([],(l.length:Int) - k,e)):=by
 unfold lexR lexG;rw [if_neg (by omega),if_pos h2]
 cases lexE l.length 0 l <;> rfl
theorem zMK {α β:Type} {ε:Type} {e:ε} {x:Except ε α} (f:α→β) (h:x=.error e):x.map f=.error e:=by rw [h];rfl
theorem zJv {l:List UInt8} {p n:Nat} {e:Int} {f:List Tk→List Tk} (h1:l.length≤16384) (h2:isP l=true) (hp:p≤l.length) (hG:lexG 0 l=(lexG n (l.drop p)).map f) (h:lexG n (l.drop p)=.error (e,l.length - p)):lexR l=([],(p:Int),e):=by
 rw [zMG h1 h2,hG,zMK f h];dsimp only;rw [show ((l.length:Nat):Int) - ((l.length - p:Nat):Int)=(p:Int) by omega]
theorem zIq {l r:List UInt8} {t:Tk} (h:oneL l=some (t,r)):∃k,k≤l.length∧r=l.drop k:=by
 rcases zDg h with ⟨h1,s,rfl,ht⟩ | ⟨h1,h2,a,x,rfl,_⟩
 · obtain ⟨_,k,hk,e⟩:=zJE ht
   exact ⟨k+1,by simp;omega,by rw [e];rfl⟩
 · exact ⟨a.length,by simp,by rw [List.drop_left]⟩
structure TB where
 x:ByteArray
 A:Option Addr
 c:Nat
 u:ByteArray
 t:Tk
def zAe (b:TB):List Value:=[.int .u8 (b.t.kind:Int),.string b.x,.slice b.A b.t.attrs.length b.c,.string b.u]
def zF6 (s:ByteArray) (w:World) (e:Ending) (w':World):Prop:=Below w.heap.size w w' ∧
 ∃(ts:List Tk) (n er:Int) (A:Option Addr) (c:Nat),lexR s.data.toList=(ts,n,er)∧e=.returned (.tuple #[.slice A ts.length c,.int .i64 n,.int .i64 er])∧RdC TkC w' w'.heap.size A ts∧ts.length≤c∧c≤maxLen∧(A=none→c=0)
theorem zF6.bad {s:ByteArray} {w w':World} {n er:Int} (hb:Below w.heap.size w w') (h:lexR s.data.toList=([],n,er)):zF6 s w (.returned (.tuple #[.slice none 0 0,.int .i64 n,.int .i64 er])) w' :=
 ⟨hb,[],n,er,none,0,h,rfl,RdC.nil _ _ _,Nat.le_refl _,Nat.zero_le _,fun _=>rfl⟩
theorem zJo:(prog.info? 131).map (fun i=>(i.zero,i.size,i.bytes))=some (some (.agg #[.int .u8 0,.string ⟨#[]⟩,.slice none 0 0,.string ⟨#[]⟩]),4,64):=by kernel_rfl
theorem zHy (k:Int) (x:ByteArray) (A:Option Addr) (n c:Nat) (u:ByteArray):∀v∈[Value.int .u8 k,.string x,.slice A n c,.string u],v.oneCell'=true:=by simp [Value.oneCell']
end Hx
end Go.Proofs.YtlgppednjkbgiaaGreatDoor
