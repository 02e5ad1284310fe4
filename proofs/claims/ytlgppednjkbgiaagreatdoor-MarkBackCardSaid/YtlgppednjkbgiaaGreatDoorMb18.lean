/- Texts put together. -/
import Derived.Test.YtlgppednjkbgiaaGreatDoorMbA
import Derived.Test.YtlgppednjkbgiaaGreatDoorMb17
import Derived.Deep.LoopGhost
import Derived.WalkMore
import Derived.Test.YtlgppednjkbgiaaGreatDoorShelf
import Derived.Lib.ItoaMem
import Derived.Lib.AppendIntMem
set_option maxRecDepth 100000
set_option maxHeartbeats 16000000
set_option linter.unusedVariables false
namespace Go.Proofs.YtlgppednjkbgiaaGreatDoor
open Go.RowKit Go.Proofs.Tryz
namespace Hx
open Lx Tr Tx Nmb Es Ns
theorem zKq (s:ByteArray) (q:Bool) (h:(cutC s.data.toList).isSome=q) (w:World) :
 Calls prog 85 #[.string s,.string ⟨#[58]⟩] w λe w'=>e=.returned (.bool q)/\Below w.heap.size w w':=by
 refine (Tryz.strings_Contains_one s 58 w).mono λe w' hh=>?_
 obtain ⟨h1,rfl⟩:=hh;refine ⟨?_,Below.refl _ _⟩;rw [h1,←h];rcases zBR s.data.toList 58 with ⟨h2,h3⟩ | ⟨i,h2,_,h3,_⟩
 · have:cutC s.data.toList=none:=by
    cases hc:cutC s.data.toList with
    | none=>rfl
    | some x =>
     obtain ⟨a,b⟩:=x;obtain ⟨e1,_⟩:=zCH hc;exact absurd (by rw [e1];simp) h3
   rw [this,h2]
   rfl
 · rw [zD6 (by rw [h3];simp),h2,decide_eq_true (by omega)]
def zDu (E:List (List At)) (s:List At × Bool) (a:At):List At × Bool:=match decl a.name with
 | some _=>s
 | none=>(s.1++[(atE E a).1],(s.2&&(atE E a).2)&& !hasK s.1 (atE E a).1)
theorem zJV (E:List (List At)):∀(l:List At) (L:List At) (ok:Bool),zBZ l=true->l.foldl (zDu E) (L,ok)=((atsE E L l).1,ok&&(atsE E L l).2)
 | [],L,ok,_=>by simp [atsE]
 | a::l,L,ok,h=>by
  unfold zBZ at h;rw [List.all_cons,Bool.and_eq_true] at h;have ih:=λL ok=>zJV E l L ok h.2
  have h1:=h.1;rw [List.foldl_cons,atsE]
  cases hd:decl a.name with
  | some p =>
   rw [hd] at h1;have hs:zDu E (L,ok) a=(L,ok):=by unfold zDu;rw [hd]
   dsimp only at h1 ⊢;rw [hs,ih,h1,Bool.true_and]
  | none =>
   have hs:zDu E (L,ok) a=(L++[(atE E a).1],(ok&&(atE E a).2)&& !hasK L (atE E a).1):=by unfold zDu;rw [hd]
   dsimp only;rw [hs,ih];simp only [Bool.and_assoc]
theorem zIF (E:List (List At)):∀(l:List At) (L:List At) (ok:Bool),(l.foldl (zDu E) (L,ok)).1.length<=L.length+l.length
 | [],L,ok=>by simp
 | a::l,L,ok=>by
  rw [List.foldl_cons];obtain ⟨p,hp⟩:∃p,zDu E (L,ok) a=p:=⟨_,rfl⟩;obtain ⟨L2,ok2⟩:=p
  have h2:L2.length<=L.length+1:=by
   unfold zDu at hp
   cases hd:decl a.name with
   | some p=>rw [hd] at hp;dsimp only at hp;injection hp with h1 _;rw [←h1];omega
   | none=>rw [hd] at hp;dsimp only at hp;injection hp with h1 _;rw [←h1];simp
  rw [hp];have:=zIF E l L2 ok2;rw [List.length_cons]
  omega
def okR (E:List (List At)) (nm:List UInt8) (l:List At):Bool:=(zA0 E (Ns.zHQ nm).1).2&&(atsE E [] l).2
def zSe (E:List (List At)) (nl:List UInt8) (l:List At) (b g:Nat) (D:List (List UInt8 × AB)) (kv mv:Value) (z:ByteArray) (w:World) (e:Ending) (w':World):Prop:=∃(s nm:ByteArray) (A':Option Addr) (c':Nat) (L:List AB),e=.returned (.bool (okR E nl l))/\s.data.toList=(zA0 E (Ns.zHQ nl).1).1/\nm.data.toList=(Ns.zHQ nl).2/\L.map zAg=(atsE E [] l).1 ∧
 w'.ownsRow w.heap.size 44 3 (.slice A' L.length c') L.length (L.flatMap zAi)/\w'.heap[g]?=some (.cells #[kv,.string s,.string nm,.slice A' L.length c',.string z,mv] 42 (0,0))/\Below g w w'∧w.heap.size<=w'.heap.size/\MapD w' b D
structure ReSt (E:List (List At)) (ok0:Bool) (l:List At) (j:Nat) (base:Nat) (w:World) (L:List AB) (ok:Bool) (V:Value) (wr:World):Prop where
 fold:(l.take j).foldl (zDu E) ([],ok0)=(L.map zAg,ok)
 own:wr.ownsRow base 44 3 V L.length (L.flatMap zAi)
 sz:base<=wr.heap.size
 below:Below base w wr
theorem ReSt.len {E:List (List At)} {ok0:Bool} {l:List At} {j base:Nat} {w:World} {L:List AB} {ok:Bool} {V:Value} {wr:World} (h:ReSt E ok0 l j base w L ok V wr):L.length<=j:=by
 have:=zIF E (l.take j) [] ok0;rw [h.fold,List.length_map,List.length_take] at this
 simp at this
 omega
theorem ReSt.skip {E:List (List At)} {ok0:Bool} {l:List At} {j base:Nat} {w:World} {L:List AB} {ok:Bool} {V:Value} {wr:World} (h:ReSt E ok0 l j base w L ok V wr) {a:At} (ha:l.take (j+1)=l.take j++[a]) (hd:(decl a.name).isSome=true) {w':World} (hb:Below wr.heap.size wr w'):ReSt E ok0 l (j+1) base w L ok V w':=by
 refine ⟨?_,zAF h.own hb (Nat.le_refl _),Nat.le_trans h.sz hb.size,h.below.trans (hb.mono h.sz)⟩;rw [ha,List.foldl_append,h.fold];obtain ⟨p,hp⟩:=Option.isSome_iff_exists.1 hd;show zDu E (L.map zAg,ok) a=_;unfold zDu;rw [hp]
theorem ReSt.snoc {E:List (List At)} {ok0:Bool} {l:List At} {j base:Nat} {w:World} {L:List AB} {ok:Bool} {V:Value} {wr:World} (h:ReSt E ok0 l j base w L ok V wr) {a:At} (ha:l.take (j+1)=l.take j++[a]) (hd:(decl a.name).isSome=false) (b:AB) (hb:zAg b=(atE E a).1) (ok2:Bool) (hok:((ok&&(atE E a).2)&& !hasK (L.map zAg) (atE E a).1)=ok2) {w4 w5:World} {V5:Value}
 (h4:Below base w w4) (hz4:base<=w4.heap.size) (hV:∀g,V.ownBlock=some g->base<=g) (hown:w5.ownsRow base 44 3 V5 (L.length+1) (L.flatMap zAi++zAi b)) (hgr:w4.grownBy w5 V.ownBlock):ReSt E ok0 l (j+1) base w (L++[b]) ok2 V5 w5:=by
 refine ⟨?_,?_,Nat.le_trans hz4 hgr.size,h4.grown hgr hz4 hV⟩
 · rw [ha,List.foldl_append,h.fold]
   show zDu E (L.map zAg,ok) a=_;unfold zDu
   have hdn:decl a.name=none:=by cases hd2:decl a.name with
    | none=>rfl
    | some p=>rw [hd2] at hd;cases hd
   rw [hdn];dsimp only;rw [hok,List.map_append,List.map_cons,List.map_nil,hb]
 · rw [List.length_append,List.flatMap_append,List.flatMap_cons,List.flatMap_nil,List.append_nil]
   exact hown
theorem zMN (b g:Nat) (D:List (List UInt8 × AB)) (E:List (List At)) (kv mv:Value) (x y z:ByteArray) (A:Option Addr) (n c:Nat) (l:List At) (w:World) (hm:MapD w b D) (hE:EnvD D E)
 (hg:w.heap[g]?=some (.cells #[kv,.string x,.string y,.slice A n c,.string z,mv] 42 (0,0))) (hgb:g<b) (hr:RdB AtS w A l) (hn:l.length=n) (hna:n<=1000000) (hys:y.size<=1000000) (hsz:∀a∈l,a.name.length<=1000000) (hraw:∀a∈l,a.space=[]) (hok:zBZ l=true) :
 Calls prog 42 #[.map (some b),.pointer (some ⟨g,0,none⟩)] w (zSe E y.data.toList l b g D kv mv z w):=by
 obtain ⟨i0,hi,hz0,hz1,hz2⟩:=info_parts zHN;have HI:=hI hi;have HZ0:=hI hz0;have HZ1:=hI hz1;have HZ2:=hI hz2;have HM:=hI hm;have HG:=hI hg;have HR:=hI hr;have HN:=hI hn;have HSZ:=hI hsz;have HRAW:=hI hraw;have HDO:=hI hok;have HGB:=hI hgb;have HBL:Hid (b<w.heap.size):=hI (by obtain ⟨es,cl,hb,_⟩:=hm;exact (Array.getElem?_eq_some_iff.1 hb).1);obtain ⟨nl,hnl⟩:∃nl,y.data.toList=nl:=⟨_,rfl⟩;obtain ⟨ok0,hok0⟩:∃ok0,(zA0 E (Ns.zHQ nl).1).2=ok0:=⟨_,rfl⟩;obtain ⟨okq,hokq⟩:∃okq,okR E nl l=okq:=⟨_,rfl⟩;have HOKQ:=hI hokq;have HOK0:=hI hok0;have HNL:=hI hnl;have HFD:=hI (zPO b D E y w hm hE hys);have HMF:Hid (∀W,Below w.heap.size w W->∀f:ByteArray,f.size<=1000000->Calls prog 84 #[.map (some b),.string f] W λe w'=>(∃s nm:ByteArray,e=.returned (.tuple #[.string s,.string nm,.bool (zA0 E (Ns.zHQ f.data.toList).1).2])/\s.data.toList=(zA0 E (Ns.zHQ f.data.toList).1).1/\nm.data.toList=(Ns.zHQ f.data.toList).2)/\Below W.heap.size W w'):=hI λW hW f hf=>zPO b D E f W (hm.kept (hW.block b HBL.out)) hE hf
 rw [hnl,hok0] at HFD;rw [hnl];have k02:=zAA w g 2 _ _ _ hg;have bn:(n:Int)<=1000000:=by omega
 clear hi hz0 hz1 hz2 hm hg hr hn hsz hraw hok hgb hokq hok0 hnl hE
 go_enter func42,ntmps42
 go_wp2_with (first
  | (go_at_call 84;(with_reducible refine (HFD.out).mono ?_);rintro e1 w1 ⟨⟨s1,nm1,rfl,hs1,hnm1⟩,hb1⟩;have HB1:=hI hb1;have HS1:=hI hs1;have HNM1:=hI hnm1;have HG1:=hI (zAB HG.out hb1);have k13:=zAA w1 g 3 _ _ _ HG1.out;clear hb1 hs1 hnm1)
  | fail)
 go_loopg [7,8,27] n (λgg x7 x8 i wr=>∃(j:Nat) (ok:Bool) (L:List AB),j+gg=n/\i=.int .i64 j/\x7=.bool ok/\(∃A1 c1,x8=.slice A1 L.length c1)/\ReSt E ok0 l j w.heap.size w L ok x8 wr)
 case atStart=>exact ⟨0,ok0,[],by omega,rfl,rfl,⟨none,0,rfl⟩,⟨rfl,World.ownsRow_nil _ _ _ _,HB1.out.size,HB1.out⟩⟩
 case round =>
  obtain ⟨j,ok,L,hjg,rfl,rfl,⟨A1,c1,rfl⟩,hst⟩:=hrel;have HST:=hI hst;have HBW:=hI hst.below;have HVB:Hid (∀g,(Value.slice A1 L.length c1).ownBlock=some g->w.heap.size<=g):=hI λg hg=>(hst.own.lt g hg).1
  by_cases hlt:j<n
  · have hjl:j<l.length:=by rw [HN.out];exact hlt
    obtain ⟨b0,off,x2,y2,z2,hA,hbB,hx,hy,hz,c0,c1',c2⟩:=zDL HR.out hjl;have hnm:=HSZ.out _ (List.getElem_mem hjl);have hrw:=HRAW.out _ (List.getElem_mem hjl);obtain ⟨a,ha⟩:∃a,l[j]'hjl=a:=⟨_,rfl⟩;rw [ha] at hx hy hz hnm hrw;have hys2:y2.size<=1000000:=by rw [zNf hy];exact hnm
    have q0:=(HBW.out.cell (p:=⟨b0,_,none⟩) hbB).trans c0;have q1:=(HBW.out.cell (p:=⟨b0,_,none⟩) hbB).trans c1';have q2:=(HBW.out.cell (p:=⟨b0,_,none⟩) hbB).trans c2;have htk:l.take (j+1)=l.take j++[a]:=by rw [List.take_succ_eq_append_getElem hjl,ha]
    have HTK:=hI htk;have bj:(0:Int)<=(j:Int)/\(j:Int)<(n:Int):=by omega
    obtain ⟨W1,hW1⟩:∃W1,wr.alloc (.cells #[.string x2,.string y2,.string z2] 44)=W1:=⟨_,rfl⟩;have HB1:Hid (Below wr.heap.size wr W1):=hI (by rw [←hW1];exact stpA (Below.refl _ _) _);have HX1:Hid (W1.heap[wr.heap.size]?=some (.cells #[.string x2,.string y2,.string z2] 44 (0,0))):=hI (by rw [←hW1];exact heap_alloc_new wr _);obtain ⟨dq,hdq⟩:∃dq,(decl a.name).isSome=dq:=⟨_,rfl⟩;have HDQ:=hI hdq;have HDC:Hid (Calls prog 81 #[.agg #[.string x2,.string y2,.string z2]] W1 λe w'=>e=.returned (.bool dq)/\Below W1.heap.size W1 w'):=hI (zFR ⟨x2,y2,z2⟩ W1 dq (by show (decl y2.data.toList).isSome=dq;rw [hy];exact hdq));obtain ⟨cq,hcq⟩:∃cq,(cutC a.name).isSome=cq:=⟨_,rfl⟩;have HCT:Hid (∀W:World,Calls prog 85 #[.string y2,.string ⟨#[58]⟩] W λe w'=>e=.returned (.bool cq)/\Below W.heap.size W w'):=hI λW=>zKq y2 cq (by rw [hy];exact hcq) W
    have HHAS:Hid (∀W (X Y Z:ByteArray),Below wr.heap.size wr W->∀q,hasK (L.map zAg) ⟨X.data.toList,Y.data.toList,Z.data.toList⟩=q->Calls prog 86 #[.slice A1 L.length c1,.agg #[.string X,.string Y,.string Z]] W λe w'=>e=.returned (.bool q)/\Below W.heap.size W w'):=hI λW X Y Z hW q hq=>by
     have ho:=zAF hst.own hW (Nat.le_refl _);obtain ⟨r1,_⟩:=RdS.of_own (C:=AtS) (S:=λb=>b<W.heap.size) zAi zAg (λ_=>rfl) (by decide) L (λb _=>ab_R W _ b) (λg hg=>(ho.lt g hg).2) ho;exact zSD X Y Z A1 L.length c1 (L.map zAg) W r1 (by rw [List.length_map]) (by have:=hst.len;omega) ⟨X.data.toList,Y.data.toList,Z.data.toList⟩ rfl rfl q hq
    subst hA;have HXD:=hI hx;have HYD:=hI hy;have HZD:=hI hz;obtain ⟨iq,hiq⟩:∃iq,(zA0 E (Ns.zHQ a.name).1).2=iq:=⟨_,rfl⟩
    have HFM:Hid (∀W,Below w.heap.size w W->Calls prog 84 #[.map (some b),.string y2] W λe w'=>(∃s nm:ByteArray,e=.returned (.tuple #[.string s,.string nm,.bool iq])/\s.data.toList=(zA0 E (Ns.zHQ a.name).1).1/\nm.data.toList=(Ns.zHQ a.name).2)/\Below W.heap.size W w'):=hI λW hW=>by
     have:=HMF.out W hW y2 hys2;rw [hy,hiq] at this;exact this
    cases dq with
    | true =>
     have HNX:Hid (∀w',Below wr.heap.size wr w'->ReSt E ok0 l (j+1) w.heap.size w L ok (.slice A1 L.length c1) w'):=hI λw' hw=>hst.skip htk hdq hw
     clear hst hx hy hz c0 c1' c2 htk ha hnm hdq hjl hbB hcq HTK HDQ HXD HYD HZD HFM HHAS HCT hrw hiq hys2
     go_wp2_with (first
      | (refine wpList_store_row rfl _ _ _ rfl wr.heap.size #[.string x2,.string y2,.string z2] rfl rfl 44 #[.string ⟨#[]⟩,.string ⟨#[]⟩,.string ⟨#[]⟩] (heap_alloc_new _ _) zAX rfl (by simp [Value.oneCell']) ?_;rw [World.setRow_alloc_new,hW1])
      | (refine wpList_load_row rfl _ _ rfl wr.heap.size rfl 44 #[.string x2,.string y2,.string z2] (0,0) _ HX1.out underlying44 rfl zAX ?_)
      | (go_at_call 81;(with_reducible refine (HDC.out).mono ?_);rintro e2 w2 ⟨rfl,hb2⟩;have HB2:=hI (stp HB1.out hb2);have HX2:=hI (zAB HX1.out hb2);have k20:=zAA w2 _ 0 _ _ _ HX2.out;have k21:=zAA w2 _ 1 _ _ _ HX2.out;clear hb2)
      | fail)
     go_roundg (gk - 1)
     case measure=>omega
     case rel=>exact ⟨j+1,ok,L,by omega,by go_num,rfl,⟨_,_,rfl⟩,HNX.out _ HB2.out⟩
    | false =>
     cases cq with
     | false =>
      have hcn:cutC a.name=none:=by cases hc:cutC a.name with
       | none=>rfl
       | some p=>rw [hc] at hcq;cases hcq
      have hae:atE E a=(⟨[],a.name,a.value⟩,true):=by unfold atE;rw [hcn]
      have HAV:Hid (zAg ⟨x2,y2,z2⟩=(atE E a).1):=hI (by rw [hae];unfold zAg;dsimp only;rw [hx,hy,hz,hrw]);have HAE:Hid ((atE E a).2=true):=hI (by rw [hae]);obtain ⟨hq,hhq⟩:∃hq,hasK (L.map zAg) (atE E a).1=hq:=⟨_,rfl⟩;have HHQ:Hid (∀W,Below wr.heap.size wr W->Calls prog 86 #[.slice A1 L.length c1,.agg #[.string x2,.string y2,.string z2]] W λe w'=>e=.returned (.bool hq)/\Below W.heap.size W w'):=hI λW hW=>HHAS.out W x2 y2 z2 hW hq (by rw [←hhq,←HAV.out];rfl)
      cases ok with
      | false =>
      have HOK:Hid ((((false:Bool)&&(atE E a).2)&& !hasK (L.map zAg) (atE E a).1)=false):=hI (by rw [HAE.out,hhq];simp);clear hst hx hy hz c0 c1' c2 htk ha hnm hdq hjl hbB hrw hiq hys2 HXD HYD HZD hae hcn hcq hhq HFM HHAS HAE
      go_wp2_with (first
      | (refine wpList_store_row rfl _ _ _ rfl wr.heap.size #[.string x2,.string y2,.string z2] rfl rfl 44 #[.string ⟨#[]⟩,.string ⟨#[]⟩,.string ⟨#[]⟩] (heap_alloc_new _ _) zAX rfl (by simp [Value.oneCell']) ?_;rw [World.setRow_alloc_new,hW1])
      | (go_at_call 81;(with_reducible refine (HDC.out).mono ?_);rintro e2 w2 ⟨rfl,hb2⟩;have HB2:=hI (stp HB1.out hb2);have HX2:=hI (zAB HX1.out hb2);have k20:=zAA w2 _ 0 _ _ _ HX2.out;have k21:=zAA w2 _ 1 _ _ _ HX2.out;clear hb2)
      | (go_at_call 85;(with_reducible refine (HCT.out w2).mono ?_);rintro e3 w3 ⟨rfl,hb3⟩;have HB3:=hI (stp HB2.out hb3);have HX3:=hI (zAB HX2.out hb3);have k30:=zAA w3 _ 0 _ _ _ HX3.out;have k31:=zAA w3 _ 1 _ _ _ HX3.out;have k32:=zAA w3 _ 2 _ _ _ HX3.out;clear hb3)
      | (refine wpList_load_row rfl _ _ rfl wr.heap.size rfl 44 #[.string x2,.string y2,.string z2] (0,0) _ HX1.out underlying44 rfl zAX ?_)
      | (refine wpList_load_row rfl _ _ rfl wr.heap.size rfl 44 #[.string x2,.string y2,.string z2] (0,0) _ HX3.out underlying44 rfl zAX ?_)
      | (at_builtin;refine wpList_append_own_at _ rfl (.tmp 57) (.tmp 59) 40 rfl w.heap.size 44 i0 (.agg #[.string ⟨#[]⟩,.string ⟨#[]⟩,.string ⟨#[]⟩]) 3 48 underlying40 HI.out HZ0.out HZ1.out HZ2.out rfl (by decide) _ L.length _ rfl (zAF HST.out.own (stpA HB3.out _) (Nat.le_refl _)) ⟨w3.heap.size,0,none⟩ 1 1 [.string x2,.string y2,.string z2] rfl rfl (zAp (w3) [.string x2,.string y2,.string z2] 44 w3.heap.size (rfl)) (by simp [Value.oneCell']) (by have:=HST.out.len;unfold maxLen;omega) (by have:=HST.out.len;omega) (by have:=HST.out.sz;have:=(HB3.out).size;rw [World.size_alloc];omega) ?_;intro v5 w5 hown5 hgr5 _ _;obtain ⟨A5,c5,rfl⟩:=zAD hown5;have HST5:=hI (HST.out.snoc HTK.out HDQ.out ⟨x2,y2,z2⟩ HAV.out _ HOK.out (HST.out.below.trans ((stpA (HB3.out) _).mono HST.out.sz)) (by have:=HST.out.sz;have:=(HB3.out).size;rw [World.size_alloc];omega) HVB.out hown5 hgr5);clear hown5 hgr5)
      | fail)
      go_roundg (gk - 1)
      case measure=>omega
      case rel=>exact ⟨j+1,_,_,by omega,by go_num,by rfl,⟨_,_,by rw [List.length_append];rfl⟩,HST5.out⟩
      | true =>
      have HOK:Hid ((((true:Bool)&&(atE E a).2)&& !hasK (L.map zAg) (atE E a).1)=(!hq)):=hI (by rw [HAE.out,hhq];simp);clear hst hx hy hz c0 c1' c2 htk ha hnm hdq hjl hbB hrw hiq hys2 HXD HYD HZD hae hcn hcq hhq HFM HHAS HAE
      go_wp2_with (first
      | (refine wpList_store_row rfl _ _ _ rfl wr.heap.size #[.string x2,.string y2,.string z2] rfl rfl 44 #[.string ⟨#[]⟩,.string ⟨#[]⟩,.string ⟨#[]⟩] (heap_alloc_new _ _) zAX rfl (by simp [Value.oneCell']) ?_;rw [World.setRow_alloc_new,hW1])
      | (go_at_call 81;(with_reducible refine (HDC.out).mono ?_);rintro e2 w2 ⟨rfl,hb2⟩;have HB2:=hI (stp HB1.out hb2);have HX2:=hI (zAB HX1.out hb2);have k20:=zAA w2 _ 0 _ _ _ HX2.out;have k21:=zAA w2 _ 1 _ _ _ HX2.out;clear hb2)
      | (go_at_call 85;(with_reducible refine (HCT.out w2).mono ?_);rintro e3 w3 ⟨rfl,hb3⟩;have HB3:=hI (stp HB2.out hb3);have HX3:=hI (zAB HX2.out hb3);have k30:=zAA w3 _ 0 _ _ _ HX3.out;have k31:=zAA w3 _ 1 _ _ _ HX3.out;have k32:=zAA w3 _ 2 _ _ _ HX3.out;clear hb3)
      | (refine wpList_load_row rfl _ _ rfl wr.heap.size rfl 44 #[.string x2,.string y2,.string z2] (0,0) _ HX1.out underlying44 rfl zAX ?_)
      | (refine wpList_load_row rfl _ _ rfl wr.heap.size rfl 44 #[.string x2,.string y2,.string z2] (0,0) _ HX3.out underlying44 rfl zAX ?_)
      | (go_at_call 86;(with_reducible refine (HHQ.out w3 HB3.out).mono ?_);rintro e4 w4 ⟨rfl,hb4⟩;have HB4:=hI (stp HB3.out hb4);have HX4:=hI (zAB HX3.out hb4);clear hb4)
      | (refine wpList_load_row rfl _ _ rfl wr.heap.size rfl 44 #[.string x2,.string y2,.string z2] (0,0) _ HX4.out underlying44 rfl zAX ?_)
      | (at_builtin;refine wpList_append_own_at _ rfl (.tmp 57) (.tmp 59) 40 rfl w.heap.size 44 i0 (.agg #[.string ⟨#[]⟩,.string ⟨#[]⟩,.string ⟨#[]⟩]) 3 48 underlying40 HI.out HZ0.out HZ1.out HZ2.out rfl (by decide) _ L.length _ rfl (zAF HST.out.own (stpA HB4.out _) (Nat.le_refl _)) ⟨w4.heap.size,0,none⟩ 1 1 [.string x2,.string y2,.string z2] rfl rfl (zAp (w4) [.string x2,.string y2,.string z2] 44 w4.heap.size (rfl)) (by simp [Value.oneCell']) (by have:=HST.out.len;unfold maxLen;omega) (by have:=HST.out.len;omega) (by have:=HST.out.sz;have:=(HB4.out).size;rw [World.size_alloc];omega) ?_;intro v5 w5 hown5 hgr5 _ _;obtain ⟨A5,c5,rfl⟩:=zAD hown5;have HST5:=hI (HST.out.snoc HTK.out HDQ.out ⟨x2,y2,z2⟩ HAV.out _ HOK.out (HST.out.below.trans ((stpA (HB4.out) _).mono HST.out.sz)) (by have:=HST.out.sz;have:=(HB4.out).size;rw [World.size_alloc];omega) HVB.out hown5 hgr5);clear hown5 hgr5)
      | fail)
      go_roundg (gk - 1)
      case measure=>omega
      case rel=>exact ⟨j+1,_,_,by omega,by go_num,by rfl,⟨_,_,by rw [List.length_append];rfl⟩,HST5.out⟩
     | true =>
      have hae:atE E a=(⟨(zA0 E (Ns.zHQ a.name).1).1,(Ns.zHQ a.name).2,a.value⟩,iq):=by
       obtain ⟨p,hp⟩:=Option.isSome_iff_exists.1 hcq;obtain ⟨p1,p2⟩:=p;rw [←hiq];unfold atE Ns.zHQ;rw [hp]
      have HAE:Hid ((atE E a).2=iq):=hI (by rw [hae]);have HAV0:Hid (∀s nm:ByteArray,s.data.toList=(zA0 E (Ns.zHQ a.name).1).1->nm.data.toList=(Ns.zHQ a.name).2->zAg ⟨s,nm,z2⟩=(atE E a).1):=hI λs nm h1 h2=>by rw [hae];unfold zAg;dsimp only;rw [h1,h2,hz]
      obtain ⟨hq,hhq⟩:∃hq,hasK (L.map zAg) (atE E a).1=hq:=⟨_,rfl⟩;have HHQ:Hid (∀W (s nm:ByteArray),Below wr.heap.size wr W->zAg ⟨s,nm,z2⟩=(atE E a).1->Calls prog 86 #[.slice A1 L.length c1,.agg #[.string s,.string nm,.string z2]] W λe w'=>e=.returned (.bool hq)/\Below W.heap.size W w'):=hI λW s nm hW h1=>HHAS.out W s nm z2 hW hq (by rw [←hhq,←h1];rfl)
      cases ok with
      | false =>
       have HOK:Hid ((((false:Bool)&&(atE E a).2)&& !hasK (L.map zAg) (atE E a).1)=false):=hI (by rw [HAE.out,hhq];simp);clear hst hx hy hz c0 c1' c2 htk ha hnm hdq hjl hbB hrw hiq hys2 HXD HYD HZD hae hcq hhq HHAS HAE
       go_wp2_with (first
      | (refine wpList_store_row rfl _ _ _ rfl wr.heap.size #[.string x2,.string y2,.string z2] rfl rfl 44 #[.string ⟨#[]⟩,.string ⟨#[]⟩,.string ⟨#[]⟩] (heap_alloc_new _ _) zAX rfl (by simp [Value.oneCell']) ?_;rw [World.setRow_alloc_new,hW1])
      | (go_at_call 81;(with_reducible refine (HDC.out).mono ?_);rintro e2 w2 ⟨rfl,hb2⟩;have HB2:=hI (stp HB1.out hb2);have HX2:=hI (zAB HX1.out hb2);have k20:=zAA w2 _ 0 _ _ _ HX2.out;have k21:=zAA w2 _ 1 _ _ _ HX2.out;clear hb2)
      | (go_at_call 85;(with_reducible refine (HCT.out w2).mono ?_);rintro e3 w3 ⟨rfl,hb3⟩;have HB3:=hI (stp HB2.out hb3);have HX3:=hI (zAB HX2.out hb3);have k30:=zAA w3 _ 0 _ _ _ HX3.out;have k31:=zAA w3 _ 1 _ _ _ HX3.out;have k32:=zAA w3 _ 2 _ _ _ HX3.out;clear hb3)
      | (refine wpList_load_row rfl _ _ rfl wr.heap.size rfl 44 #[.string x2,.string y2,.string z2] (0,0) _ HX1.out underlying44 rfl zAX ?_)
      | (go_at_call 84;(with_reducible refine (HFM.out w3 (HBW.out.trans (HB3.out.mono HST.out.sz))).mono ?_);rintro e4 w4 ⟨⟨s4,nm4,rfl,hs4,hnm4⟩,hb4⟩;have HAV:=hI (HAV0.out s4 nm4 hs4 hnm4);have HB4:=hI (stp HB3.out hb4);have HX4:=hI (zAB HX3.out hb4);have k40:=zAA w4 _ 0 _ _ _ HX4.out;have f40:=zAZ w4 _ 0 _ _ HX4.out;have HX45:Hid ((w4.setCell ⟨wr.heap.size,0,none⟩ (.string s4)).heap[wr.heap.size]?=some (.cells #[.string s4,.string y2,.string z2] 44 (0,0))):=hI (heap_setCell_same w4 wr.heap.size 0 _ _ (.string s4) HX4.out);have k41:=zAA (w4.setCell ⟨wr.heap.size,0,none⟩ (.string s4)) _ 1 _ _ _ HX45.out;have f41:=zAZ (w4.setCell ⟨wr.heap.size,0,none⟩ (.string s4)) _ 1 _ _ HX45.out;have HX5:Hid (((w4.setCell ⟨wr.heap.size,0,none⟩ (.string s4)).setCell ⟨wr.heap.size,1,none⟩ (.string nm4)).heap[wr.heap.size]?=some (.cells #[.string s4,.string nm4,.string z2] 44 (0,0))):=hI (heap_setCell_same (w4.setCell ⟨wr.heap.size,0,none⟩ (.string s4)) wr.heap.size 1 _ _ (.string nm4) HX45.out);have HB5:Hid (Below wr.heap.size wr ((w4.setCell ⟨wr.heap.size,0,none⟩ (.string s4)).setCell ⟨wr.heap.size,1,none⟩ (.string nm4))):=hI ((HB4.out.setCell (p:=⟨wr.heap.size,0,none⟩) (Nat.le_refl _) (.string s4)).setCell (p:=⟨wr.heap.size,1,none⟩) (Nat.le_refl _) (.string nm4));have k50:=zAA ((w4.setCell ⟨wr.heap.size,0,none⟩ (.string s4)).setCell ⟨wr.heap.size,1,none⟩ (.string nm4)) _ 0 _ _ _ HX5.out;have k51:=zAA ((w4.setCell ⟨wr.heap.size,0,none⟩ (.string s4)).setCell ⟨wr.heap.size,1,none⟩ (.string nm4)) _ 1 _ _ _ HX5.out;have k52:=zAA ((w4.setCell ⟨wr.heap.size,0,none⟩ (.string s4)).setCell ⟨wr.heap.size,1,none⟩ (.string nm4)) _ 2 _ _ _ HX5.out;clear hs4 hnm4 hb4)
      | (refine wpList_load_row rfl _ _ rfl wr.heap.size rfl 44 #[.string s4,.string nm4,.string z2] (0,0) _ HX5.out underlying44 rfl zAX ?_)
      | (at_builtin;refine wpList_append_own_at _ rfl (.tmp 57) (.tmp 59) 40 rfl w.heap.size 44 i0 (.agg #[.string ⟨#[]⟩,.string ⟨#[]⟩,.string ⟨#[]⟩]) 3 48 underlying40 HI.out HZ0.out HZ1.out HZ2.out rfl (by decide) _ L.length _ rfl (zAF HST.out.own (stpA HB5.out _) (Nat.le_refl _)) ⟨w4.heap.size,0,none⟩ 1 1 [.string s4,.string nm4,.string z2] rfl rfl (zAp (((w4.setCell ⟨wr.heap.size,0,none⟩ (.string s4)).setCell ⟨wr.heap.size,1,none⟩ (.string nm4))) [.string s4,.string nm4,.string z2] 44 w4.heap.size (by rw [World.size_setCell,World.size_setCell])) (by simp [Value.oneCell']) (by have:=HST.out.len;unfold maxLen;omega) (by have:=HST.out.len;omega) (by have:=HST.out.sz;have:=(HB5.out).size;rw [World.size_alloc];omega) ?_;intro v5 w5 hown5 hgr5 _ _;obtain ⟨A5,c5,rfl⟩:=zAD hown5;have HST5:=hI (HST.out.snoc HTK.out HDQ.out ⟨s4,nm4,z2⟩ HAV.out _ HOK.out (HST.out.below.trans ((stpA (HB5.out) _).mono HST.out.sz)) (by have:=HST.out.sz;have:=(HB5.out).size;rw [World.size_alloc];omega) HVB.out hown5 hgr5);clear hown5 hgr5)
      | fail)
       go_roundg (gk - 1)
       case measure=>omega
       case rel=>exact ⟨j+1,_,_,by omega,by go_num,by rfl,⟨_,_,by rw [List.length_append];rfl⟩,HST5.out⟩
      | true =>
       cases iq with
       | false =>
        have HOK:Hid ((((true:Bool)&&(atE E a).2)&& !hasK (L.map zAg) (atE E a).1)=false):=hI (by rw [HAE.out,hhq];simp);clear hst hx hy hz c0 c1' c2 htk ha hnm hdq hjl hbB hrw hiq hys2 HXD HYD HZD hae hcq hhq HHAS HAE
        go_wp2_with (first
      | (refine wpList_store_row rfl _ _ _ rfl wr.heap.size #[.string x2,.string y2,.string z2] rfl rfl 44 #[.string ⟨#[]⟩,.string ⟨#[]⟩,.string ⟨#[]⟩] (heap_alloc_new _ _) zAX rfl (by simp [Value.oneCell']) ?_;rw [World.setRow_alloc_new,hW1])
      | (go_at_call 81;(with_reducible refine (HDC.out).mono ?_);rintro e2 w2 ⟨rfl,hb2⟩;have HB2:=hI (stp HB1.out hb2);have HX2:=hI (zAB HX1.out hb2);have k20:=zAA w2 _ 0 _ _ _ HX2.out;have k21:=zAA w2 _ 1 _ _ _ HX2.out;clear hb2)
      | (go_at_call 85;(with_reducible refine (HCT.out w2).mono ?_);rintro e3 w3 ⟨rfl,hb3⟩;have HB3:=hI (stp HB2.out hb3);have HX3:=hI (zAB HX2.out hb3);have k30:=zAA w3 _ 0 _ _ _ HX3.out;have k31:=zAA w3 _ 1 _ _ _ HX3.out;have k32:=zAA w3 _ 2 _ _ _ HX3.out;clear hb3)
      | (refine wpList_load_row rfl _ _ rfl wr.heap.size rfl 44 #[.string x2,.string y2,.string z2] (0,0) _ HX1.out underlying44 rfl zAX ?_)
      | (go_at_call 84;(with_reducible refine (HFM.out w3 (HBW.out.trans (HB3.out.mono HST.out.sz))).mono ?_);rintro e4 w4 ⟨⟨s4,nm4,rfl,hs4,hnm4⟩,hb4⟩;have HAV:=hI (HAV0.out s4 nm4 hs4 hnm4);have HB4:=hI (stp HB3.out hb4);have HX4:=hI (zAB HX3.out hb4);have k40:=zAA w4 _ 0 _ _ _ HX4.out;have f40:=zAZ w4 _ 0 _ _ HX4.out;have HX45:Hid ((w4.setCell ⟨wr.heap.size,0,none⟩ (.string s4)).heap[wr.heap.size]?=some (.cells #[.string s4,.string y2,.string z2] 44 (0,0))):=hI (heap_setCell_same w4 wr.heap.size 0 _ _ (.string s4) HX4.out);have k41:=zAA (w4.setCell ⟨wr.heap.size,0,none⟩ (.string s4)) _ 1 _ _ _ HX45.out;have f41:=zAZ (w4.setCell ⟨wr.heap.size,0,none⟩ (.string s4)) _ 1 _ _ HX45.out;have HX5:Hid (((w4.setCell ⟨wr.heap.size,0,none⟩ (.string s4)).setCell ⟨wr.heap.size,1,none⟩ (.string nm4)).heap[wr.heap.size]?=some (.cells #[.string s4,.string nm4,.string z2] 44 (0,0))):=hI (heap_setCell_same (w4.setCell ⟨wr.heap.size,0,none⟩ (.string s4)) wr.heap.size 1 _ _ (.string nm4) HX45.out);have HB5:Hid (Below wr.heap.size wr ((w4.setCell ⟨wr.heap.size,0,none⟩ (.string s4)).setCell ⟨wr.heap.size,1,none⟩ (.string nm4))):=hI ((HB4.out.setCell (p:=⟨wr.heap.size,0,none⟩) (Nat.le_refl _) (.string s4)).setCell (p:=⟨wr.heap.size,1,none⟩) (Nat.le_refl _) (.string nm4));have k50:=zAA ((w4.setCell ⟨wr.heap.size,0,none⟩ (.string s4)).setCell ⟨wr.heap.size,1,none⟩ (.string nm4)) _ 0 _ _ _ HX5.out;have k51:=zAA ((w4.setCell ⟨wr.heap.size,0,none⟩ (.string s4)).setCell ⟨wr.heap.size,1,none⟩ (.string nm4)) _ 1 _ _ _ HX5.out;have k52:=zAA ((w4.setCell ⟨wr.heap.size,0,none⟩ (.string s4)).setCell ⟨wr.heap.size,1,none⟩ (.string nm4)) _ 2 _ _ _ HX5.out;clear hs4 hnm4 hb4)
      | (refine wpList_load_row rfl _ _ rfl wr.heap.size rfl 44 #[.string s4,.string nm4,.string z2] (0,0) _ HX5.out underlying44 rfl zAX ?_)
      | (at_builtin;refine wpList_append_own_at _ rfl (.tmp 57) (.tmp 59) 40 rfl w.heap.size 44 i0 (.agg #[.string ⟨#[]⟩,.string ⟨#[]⟩,.string ⟨#[]⟩]) 3 48 underlying40 HI.out HZ0.out HZ1.out HZ2.out rfl (by decide) _ L.length _ rfl (zAF HST.out.own (stpA HB5.out _) (Nat.le_refl _)) ⟨w4.heap.size,0,none⟩ 1 1 [.string s4,.string nm4,.string z2] rfl rfl (zAp (((w4.setCell ⟨wr.heap.size,0,none⟩ (.string s4)).setCell ⟨wr.heap.size,1,none⟩ (.string nm4))) [.string s4,.string nm4,.string z2] 44 w4.heap.size (by rw [World.size_setCell,World.size_setCell])) (by simp [Value.oneCell']) (by have:=HST.out.len;unfold maxLen;omega) (by have:=HST.out.len;omega) (by have:=HST.out.sz;have:=(HB5.out).size;rw [World.size_alloc];omega) ?_;intro v5 w5 hown5 hgr5 _ _;obtain ⟨A5,c5,rfl⟩:=zAD hown5;have HST5:=hI (HST.out.snoc HTK.out HDQ.out ⟨s4,nm4,z2⟩ HAV.out _ HOK.out (HST.out.below.trans ((stpA (HB5.out) _).mono HST.out.sz)) (by have:=HST.out.sz;have:=(HB5.out).size;rw [World.size_alloc];omega) HVB.out hown5 hgr5);clear hown5 hgr5)
      | fail)
        go_roundg (gk - 1)
        case measure=>omega
        case rel=>exact ⟨j+1,_,_,by omega,by go_num,by rfl,⟨_,_,by rw [List.length_append];rfl⟩,HST5.out⟩
       | true =>
        have HOK:Hid ((((true:Bool)&&(atE E a).2)&& !hasK (L.map zAg) (atE E a).1)=(!hq)):=hI (by rw [HAE.out,hhq];simp);clear hst hx hy hz c0 c1' c2 htk ha hnm hdq hjl hbB hrw hiq hys2 HXD HYD HZD hae hcq hhq HHAS HAE
        go_wp2_with (first
      | (refine wpList_store_row rfl _ _ _ rfl wr.heap.size #[.string x2,.string y2,.string z2] rfl rfl 44 #[.string ⟨#[]⟩,.string ⟨#[]⟩,.string ⟨#[]⟩] (heap_alloc_new _ _) zAX rfl (by simp [Value.oneCell']) ?_;rw [World.setRow_alloc_new,hW1])
      | (go_at_call 81;(with_reducible refine (HDC.out).mono ?_);rintro e2 w2 ⟨rfl,hb2⟩;have HB2:=hI (stp HB1.out hb2);have HX2:=hI (zAB HX1.out hb2);have k20:=zAA w2 _ 0 _ _ _ HX2.out;have k21:=zAA w2 _ 1 _ _ _ HX2.out;clear hb2)
      | (go_at_call 85;(with_reducible refine (HCT.out w2).mono ?_);rintro e3 w3 ⟨rfl,hb3⟩;have HB3:=hI (stp HB2.out hb3);have HX3:=hI (zAB HX2.out hb3);have k30:=zAA w3 _ 0 _ _ _ HX3.out;have k31:=zAA w3 _ 1 _ _ _ HX3.out;have k32:=zAA w3 _ 2 _ _ _ HX3.out;clear hb3)
      | (refine wpList_load_row rfl _ _ rfl wr.heap.size rfl 44 #[.string x2,.string y2,.string z2] (0,0) _ HX1.out underlying44 rfl zAX ?_)
      | (go_at_call 84;(with_reducible refine (HFM.out w3 (HBW.out.trans (HB3.out.mono HST.out.sz))).mono ?_);rintro e4 w4 ⟨⟨s4,nm4,rfl,hs4,hnm4⟩,hb4⟩;have HAV:=hI (HAV0.out s4 nm4 hs4 hnm4);have HB4:=hI (stp HB3.out hb4);have HX4:=hI (zAB HX3.out hb4);have k40:=zAA w4 _ 0 _ _ _ HX4.out;have f40:=zAZ w4 _ 0 _ _ HX4.out;have HX45:Hid ((w4.setCell ⟨wr.heap.size,0,none⟩ (.string s4)).heap[wr.heap.size]?=some (.cells #[.string s4,.string y2,.string z2] 44 (0,0))):=hI (heap_setCell_same w4 wr.heap.size 0 _ _ (.string s4) HX4.out);have k41:=zAA (w4.setCell ⟨wr.heap.size,0,none⟩ (.string s4)) _ 1 _ _ _ HX45.out;have f41:=zAZ (w4.setCell ⟨wr.heap.size,0,none⟩ (.string s4)) _ 1 _ _ HX45.out;have HX5:Hid (((w4.setCell ⟨wr.heap.size,0,none⟩ (.string s4)).setCell ⟨wr.heap.size,1,none⟩ (.string nm4)).heap[wr.heap.size]?=some (.cells #[.string s4,.string nm4,.string z2] 44 (0,0))):=hI (heap_setCell_same (w4.setCell ⟨wr.heap.size,0,none⟩ (.string s4)) wr.heap.size 1 _ _ (.string nm4) HX45.out);have HB5:Hid (Below wr.heap.size wr ((w4.setCell ⟨wr.heap.size,0,none⟩ (.string s4)).setCell ⟨wr.heap.size,1,none⟩ (.string nm4))):=hI ((HB4.out.setCell (p:=⟨wr.heap.size,0,none⟩) (Nat.le_refl _) (.string s4)).setCell (p:=⟨wr.heap.size,1,none⟩) (Nat.le_refl _) (.string nm4));have k50:=zAA ((w4.setCell ⟨wr.heap.size,0,none⟩ (.string s4)).setCell ⟨wr.heap.size,1,none⟩ (.string nm4)) _ 0 _ _ _ HX5.out;have k51:=zAA ((w4.setCell ⟨wr.heap.size,0,none⟩ (.string s4)).setCell ⟨wr.heap.size,1,none⟩ (.string nm4)) _ 1 _ _ _ HX5.out;have k52:=zAA ((w4.setCell ⟨wr.heap.size,0,none⟩ (.string s4)).setCell ⟨wr.heap.size,1,none⟩ (.string nm4)) _ 2 _ _ _ HX5.out;clear hs4 hnm4 hb4)
      | (refine wpList_load_row rfl _ _ rfl wr.heap.size rfl 44 #[.string s4,.string nm4,.string z2] (0,0) _ HX5.out underlying44 rfl zAX ?_)
      | (go_at_call 86;(with_reducible refine (HHQ.out ((w4.setCell ⟨wr.heap.size,0,none⟩ (.string s4)).setCell ⟨wr.heap.size,1,none⟩ (.string nm4)) s4 nm4 HB5.out HAV.out).mono ?_);rintro e6 w6 ⟨rfl,hb6⟩;have HB6:=hI (stp HB5.out hb6);have HX6:=hI (zAB HX5.out hb6);clear hb6)
      | (refine wpList_load_row rfl _ _ rfl wr.heap.size rfl 44 #[.string s4,.string nm4,.string z2] (0,0) _ HX6.out underlying44 rfl zAX ?_)
      | (at_builtin;refine wpList_append_own_at _ rfl (.tmp 57) (.tmp 59) 40 rfl w.heap.size 44 i0 (.agg #[.string ⟨#[]⟩,.string ⟨#[]⟩,.string ⟨#[]⟩]) 3 48 underlying40 HI.out HZ0.out HZ1.out HZ2.out rfl (by decide) _ L.length _ rfl (zAF HST.out.own (stpA HB6.out _) (Nat.le_refl _)) ⟨w6.heap.size,0,none⟩ 1 1 [.string s4,.string nm4,.string z2] rfl rfl (zAp (w6) [.string s4,.string nm4,.string z2] 44 w6.heap.size (rfl)) (by simp [Value.oneCell']) (by have:=HST.out.len;unfold maxLen;omega) (by have:=HST.out.len;omega) (by have:=HST.out.sz;have:=(HB6.out).size;rw [World.size_alloc];omega) ?_;intro v5 w5 hown5 hgr5 _ _;obtain ⟨A5,c5,rfl⟩:=zAD hown5;have HST5:=hI (HST.out.snoc HTK.out HDQ.out ⟨s4,nm4,z2⟩ HAV.out _ HOK.out (HST.out.below.trans ((stpA (HB6.out) _).mono HST.out.sz)) (by have:=HST.out.sz;have:=(HB6.out).size;rw [World.size_alloc];omega) HVB.out hown5 hgr5);clear hown5 hgr5)
      | fail)
        go_roundg (gk - 1)
        case measure=>omega
        case rel=>exact ⟨j+1,_,_,by omega,by go_num,by rfl,⟨_,_,by rw [List.length_append];rfl⟩,HST5.out⟩
  · obtain rfl:j=n:=by omega
    have hjj:¬((j:Int)<(j:Int)):=by omega
    have hfold:=hst.fold;rw [←HN.out,List.take_length,zJV E l [] ok0 HDO.out] at hfold;injection hfold with hf1 hf2;obtain rfl:ok=okq:=by rw [←HOKQ.out,←hf2,←HOK0.out];rfl
    have HF1:=hI hf1.symm;have HGr:=hI (zAB HG.out hst.below);have hgl:g<w.heap.size:=Nat.lt_trans HGB.out HBL.out;have HX1:Hid ((wr.setCell ⟨g,1,none⟩ (.string s1)).heap[g]?=some (.cells #[kv,.string s1,.string y,.slice A j c,.string z,mv] 42 (0,0))):=hI (heap_setCell_same wr g 1 _ _ (.string s1) HGr.out);have HX2:Hid (((wr.setCell ⟨g,1,none⟩ (.string s1)).setCell ⟨g,2,none⟩ (.string nm1)).heap[g]?=some (.cells #[kv,.string s1,.string nm1,.slice A j c,.string z,mv] 42 (0,0))):=hI (heap_setCell_same (wr.setCell ⟨g,1,none⟩ (.string s1)) g 2 _ _ (.string nm1) HX1.out);have HX3:Hid ((((wr.setCell ⟨g,1,none⟩ (.string s1)).setCell ⟨g,2,none⟩ (.string nm1)).setCell ⟨g,3,none⟩ (.slice A1 L.length c1)).heap[g]?=some (.cells #[kv,.string s1,.string nm1,.slice A1 L.length c1,.string z,mv] 42 (0,0))):=hI (heap_setCell_same ((wr.setCell ⟨g,1,none⟩ (.string s1)).setCell ⟨g,2,none⟩ (.string nm1)) g 3 _ _ (.slice A1 L.length c1) HX2.out);have k1:=zAA wr g 1 _ _ _ HGr.out;have f1:=zAZ wr g 1 _ _ HGr.out;have k2:=zAA (wr.setCell ⟨g,1,none⟩ (.string s1)) g 2 _ _ _ HX1.out;have f2:=zAZ (wr.setCell ⟨g,1,none⟩ (.string s1)) g 2 _ _ HX1.out;have k3:=zAA ((wr.setCell ⟨g,1,none⟩ (.string s1)).setCell ⟨g,2,none⟩ (.string nm1)) g 3 _ _ _ HX2.out;have f3:=zAZ ((wr.setCell ⟨g,1,none⟩ (.string s1)).setCell ⟨g,2,none⟩ (.string nm1)) g 3 _ _ HX2.out;have HPOST:Hid (∃(A':Option Addr) (c':Nat) (L':List AB),L'.map zAg=(atsE E [] l).1/\(((wr.setCell ⟨g,1,none⟩ (.string s1)).setCell ⟨g,2,none⟩ (.string nm1)).setCell ⟨g,3,none⟩ (.slice A1 L.length c1)).ownsRow w.heap.size 44 3 (.slice A' L'.length c') L'.length (L'.flatMap zAi)/\(((wr.setCell ⟨g,1,none⟩ (.string s1)).setCell ⟨g,2,none⟩ (.string nm1)).setCell ⟨g,3,none⟩ (.slice A1 L.length c1)).heap[g]?=some (.cells #[kv,.string s1,.string nm1,.slice A' L'.length c',.string z,mv] 42 (0,0))/\Below g w (((wr.setCell ⟨g,1,none⟩ (.string s1)).setCell ⟨g,2,none⟩ (.string nm1)).setCell ⟨g,3,none⟩ (.slice A1 L.length c1))/\w.heap.size<=(((wr.setCell ⟨g,1,none⟩ (.string s1)).setCell ⟨g,2,none⟩ (.string nm1)).setCell ⟨g,3,none⟩ (.slice A1 L.length c1)).heap.size/\MapD (((wr.setCell ⟨g,1,none⟩ (.string s1)).setCell ⟨g,2,none⟩ (.string nm1)).setCell ⟨g,3,none⟩ (.slice A1 L.length c1)) b D):=hI ⟨A1,c1,L,HF1.out,zAf (zAf (zAf hst.own g 1 hgl _) g 2 hgl _) g 3 hgl _,HX3.out,(((hst.below.mono (Nat.le_of_lt hgl)).setCell (p:=⟨g,1,none⟩) (Nat.le_refl _) _).setCell (p:=⟨g,2,none⟩) (Nat.le_refl _) _).setCell (p:=⟨g,3,none⟩) (Nat.le_refl _) _,by rw [World.size_setCell,World.size_setCell,World.size_setCell];exact hst.sz,HM.out.kept (by rw [zAH _ _ _ _ _ (Nat.ne_of_gt HGB.out),zAH _ _ _ _ _ (Nat.ne_of_gt HGB.out),zAH _ _ _ _ _ (Nat.ne_of_gt HGB.out)];exact hst.below.block b HBL.out)⟩;clear hst hf1 hf2
    go_wp2_with fail
    go_ret
    obtain ⟨A',c',L',p1,p2,p3,p4,p5,p6⟩:=HPOST.out;exact ⟨s1,nm1,A',c',L',by rw [HOKQ.out];rfl,HS1.out,HNM1.out,p1,p2,p3,p4,p5,p6⟩
def zBj (gv gl gt:Nat):Value:=.func (.func 39) #[] #[.pointer (some ⟨gv,0,none⟩),.pointer (some ⟨gl,0,none⟩),.pointer (some ⟨gt,0,none⟩)]
def zEH (clo:Value) (tc:TypeId) (B base gv gl gt:Nat) (A:Option Addr) (c:Nat) (v:List Nd) (L:List NB) (V:Value) (W:(List Nd × Bool) × List Nd) (w:World) (e:Ending) (w':World):Prop :=
 ∃(M:List NB) (V':Value),e=.returned (.bool W.1.2)/\FrR B gl V w V' w'∧RwSt clo tc B base gv gl gt A c v (L++M) V' w'∧(W.1.2=true->M.map NB.n=W.1.1)
theorem NdIn.plain {n:Nd} {x y z:ByteArray} {A:Option Addr} {c:Nat} {w w':World} {S S':Nat->Prop} (h:NdIn n x y z A c w S) (ha:n.attrs=[]):NdIn n x y z A c w' S' :=
 ⟨h.space,h.name,h.text,by rw [ha];exact RdS.nil _ _ _,h.le,h.cm,h.nil,h.kd,h.lo,h.hi⟩
theorem zEy {w:World} {base:Nat} {e:TypeId} {size:Nat} {v:Value} {n:Nat} {xs:List Value} (h:w.ownsRow base e size v (n+1) xs):∃g c,v=.slice (some ⟨g,0,none⟩) (n+1) c:=by
 rcases h.2 with ⟨_,h0⟩ | ⟨g,cap,cur,rfl,_⟩
 · omega
 · exact ⟨g,cap,rfl⟩
theorem zNL {g4 n c4:Nat} {V:Value} {s:Nat} (h:(Value.slice (some ⟨g4,0,none⟩) n c4).ownBlock=V.ownBlock∨(Value.slice (some ⟨g4,0,none⟩) n c4).ownBlock=some s):V.ownBlock=some g4∨g4=s:=by
 rcases h with h | h
 · exact .inl h.symm
 · exact .inr (Option.some.inj h)
theorem zGc {E:List (List At)}:∀(l acc:List At),zBZ l=false->(atsE E acc l).2=false
 | [],acc,h=>by cases h
 | a::l,acc,h=>by
  unfold zBZ at h;rw [List.all_cons] at h;rw [atsE]
  cases hd:decl a.name with
  | some p =>
   rw [hd] at h;dsimp only at h ⊢
   cases hr:zB3 p a.value with
   | false=>rfl
   | true =>
    rw [hr,Bool.true_and] at h;rw [zGc l acc h]
    rfl
  | none =>
   rw [hd] at h;dsimp only at h ⊢;rw [Bool.true_and] at h;rw [zGc l _ h,Bool.and_false]
theorem zJX (B base gv gl gt:Nat) (A:Option Addr) (c:Nat) (v:List Nd) (hl:v.length<=512) (m d:Nat) (E:List (List At)) (L:List NB) (V:Value) (w:World) (hp:L.length<v.length) (h:RwSt (zBj gv gl gt) 63 B base gv gl gt A c v L V w) (hk:(v[L.length]'hp).kind=2) (hok:ndOk (v[L.length]'hp)=true) :
 Calls prog 39 #[.map (some m),.pointer (some ⟨gv,0,none⟩),.pointer (some ⟨gl,0,none⟩),.pointer (some ⟨gt,0,none⟩)] w (zEH (zBj gv gl gt) 63 B base gv gl gt A c v L V (zAK resF zBe d E (v.drop L.length)) w):=by
 obtain ⟨i0,hi,hz0,hz1,hz2⟩:=info_parts zFB;have HI:=hI hi;have HZ0:=hI hz0;have HZ1:=hI hz1;have HZ2:=hI hz2;obtain ⟨Va,Vc,rfl⟩:=zAD h.own;obtain ⟨b0,off,x,y,t,A1,c1,hA,hbB,hin,q0,q1,q2,q3,q4,q5⟩:=zCL h.rd hp;have hBw:B<=w.heap.size:=by have:=h.ord;have:=h.sz;omega
 have hdr:=List.drop_eq_getElem_cons hp;obtain ⟨nd,hnd⟩:∃nd,v[L.length]'hp=nd:=⟨_,rfl⟩;rw [hnd] at hin q0 q3 q5 hdr hk hok;rw [hdr];obtain ⟨n,hn⟩:∃n,v.length=n:=⟨_,rfl⟩;have HLN:=hI hn;obtain ⟨n1,hn1⟩:∃n1,nd.attrs.length=n1:=⟨_,rfl⟩;have bp:(0:Int)<=(L.length:Int)/\(L.length:Int)<(n:Int):=by omega
 have bn:(n:Int)<=512:=by omega
 have HPN:Hid (L.length<=512):=hI (by omega);have kv:=cell_of_one h.hv;have kl:=cell_of_one h.hl;have HST:=hI h;rw [hn] at kv;rw [hn1] at q3;have HIN:=hI hin;rw [zFf hk];obtain ⟨mm,hmm⟩:∃mm,nd.many=mm:=⟨_,rfl⟩;rw [hmm] at q5;have HCE:Hid (zAL ⟨nd,x,y,t,A1,c1⟩=[.int .u8 2,.string x,.string y,.slice A1 n1 c1,.string t,.int .i64 mm]):=hI (by unfold zAL zBp;rw [hk,hn1,hmm];rfl);have HAT:=hI (zA6 hok hk).2.2.2.1;rw [hk,show ((2:Nat):Int)=2 from rfl] at q0;obtain ⟨W0,hW0⟩:∃W0,w.alloc (.cells #[.int .u8 2,.string x,.string y,.slice A1 n1 c1,.string t,.int .i64 mm] 42)=W0:=⟨_,rfl⟩;have HB0:Hid (Below w.heap.size w W0):=hI (by rw [←hW0];exact stpA (Below.refl _ _) _);have HX0:Hid (W0.heap[w.heap.size]?=some (.cells #[.int .u8 2,.string x,.string y,.slice A1 n1 c1,.string t,.int .i64 mm] 42 (0,0))):=hI (by rw [←hW0];exact heap_alloc_new w _);have HS0:=hI (h.below HB0.out);have k00:=zAA W0 _ 0 _ _ _ HX0.out;have kl0:=cell_of_one HS0.out.hl;have hBw2:=hI hBw;subst hA;clear hi hz0 hz1 hz2 h hin hdr hk hok hnd hbB hBw hn1 hmm hn hl hp
 go_enter func39,ntmps39
 go_wp2_with (first
  | (refine wpList_store_row rfl _ _ _ rfl w.heap.size #[.int .u8 2,.string x,.string y,.slice A1 n1 c1,.string t,.int .i64 mm] rfl rfl 42 #[.int .u8 0,.string ⟨#[]⟩,.string ⟨#[]⟩,.slice none 0 0,.string ⟨#[]⟩,.int .i64 0] (heap_alloc_new _ _) zBr rfl (by simp [Value.oneCell']) ?_;rw [World.setRow_alloc_new,hW0])
  | (refine wpList_load_row rfl _ _ rfl w.heap.size rfl 42 #[.int .u8 2,.string x,.string y,.slice A1 n1 c1,.string t,.int .i64 mm] (0,0) _ HX0.out underlying42 rfl zBr ?_)
  | (at_builtin;refine wpList_append_own_at _ rfl (.tmp 16) (.tmp 18) 22 rfl base 42 i0 (.agg #[.int .u8 0,.string ⟨#[]⟩,.string ⟨#[]⟩,.slice none 0 0,.string ⟨#[]⟩,.int .i64 0]) 6 88 underlying22 HI.out HZ0.out HZ1.out HZ2.out rfl (by decide) _ L.length _ rfl (zAF HS0.out.own (stpA (Below.refl _ _) _) (Nat.le_refl _)) ⟨W0.heap.size,0,none⟩ 1 1 [.int .u8 2,.string x,.string y,.slice A1 n1 c1,.string t,.int .i64 mm] rfl rfl (zAp W0 [.int .u8 2,.string x,.string y,.slice A1 n1 c1,.string t,.int .i64 mm] 42 _ rfl) (by simp [Value.oneCell']) (by have:=HPN.out;unfold maxLen;omega) (by have:=HPN.out;omega) (by have:=HS0.out.sz;rw [World.size_alloc];omega) ?_;intro v5 w5 hown5 hgr5 _ hat5;obtain ⟨g5,c5,rfl⟩:=zEy hown5;rw [←HCE.out] at hown5;have HPU5:=hI (HS0.out.push (b:=⟨nd,x,y,t,A1,c1⟩) (HIN.out.plain HAT.out) hown5 hgr5 (by have:=zNL hat5;rwa [World.size_alloc] at this));have hgl5:w5.heap[gl]?=some (.cells #[.slice Va L.length Vc] 22 (0,0)):=(hgr5.block _ (by rw [World.size_alloc];have:=zAY HS0.out.hl;omega) (λe=>by have:=(HS0.out.own.lt _ e.symm).1;have:=HS0.out.ord;omega)).trans ((Below.heap_alloc _ _ _ (zAY HS0.out.hl)).trans HS0.out.hl);have kl5:=zAA w5 gl 0 _ _ _ hgl5;have fl5:=zAZ w5 gl 0 _ _ hgl5;clear hown5 hgr5 hat5 hgl5)
  | fail)
 go_ret
 exact ⟨[⟨nd,x,y,t,A1,c1⟩],_,rfl,(FrR.of_below HB0.out hBw2.out).trans HPU5.out.2,HPU5.out.1,λ_=>rfl⟩
theorem zPc {base:Nat} {V:Value} {w3 w2:World} {s nm t:ByteArray} {A':Option Addr} {c':Nat} {L:List AB} {q:Nd} (ho:w3.ownsRow w2.heap.size 44 3 (.slice A' L.length c') L.length (L.flatMap zAi)) (hb:base<=w2.heap.size) (hV:∀k,V.ownBlock=some k->k<w2.heap.size)
 (h1:s.data.toList=q.space) (h2:nm.data.toList=q.name) (h3:L.map zAg=q.attrs) (h4:t.data.toList=q.text) (h5:q.kind<256) (h6:0<=q.many) (h7:q.many<=9223372036854775807):NdIn q s nm t A' c' w3 (OffN base V w3)/\q.attrs.length=L.length:=by
 obtain ⟨r1,r2,r3,r4,r5⟩:=RdS.of_own (C:=AtS) (S:=OffN base V w3) zAi zAg (λ_=>rfl) (by decide) L (λb _=>ab_R _ _ b) (λg hg=>by
  have h3:=ho.lt g hg;exact ⟨by omega,h3.2,λe=>by have:=hV g e.symm;omega⟩) ho
 rw [h3] at r1;have hl:q.attrs.length=L.length:=by rw [←h3,List.length_map]
 exact ⟨⟨h1,h2,h4,r1,by rw [hl];exact r3,r4,r5,h5,by omega,h7⟩,hl⟩
def zR3 (B base gv gl gt:Nat) (A:Option Addr) (c:Nat) (v:List Nd) (d:Nat):Prop:=∀(m:Nat) (D:List (List UInt8 × AB)) (E:List (List At)) (L:List NB) (V:Value) (r:List Nd) (w:World),MapD w m D->EnvD D E->L.length<v.length->zAE d (v.drop L.length)=some r->RwSt (zBj gv gl gt) 63 B base gv gl gt A c v L V w →
 Calls prog 39 #[.map (some m),.pointer (some ⟨gv,0,none⟩),.pointer (some ⟨gl,0,none⟩),.pointer (some ⟨gt,0,none⟩)] w (zEH (zBj gv gl gt) 63 B base gv gl gt A c v L V (zAK resF zBe d E (v.drop L.length)) w)
theorem zPU {q:Nd} {s nm t:ByteArray} {A:Option Addr} {c k:Nat} {m:Int} (h1:q.kind=1) (hl:q.attrs.length=k) (hm:q.many=m):zAL ⟨q,s,nm,t,A,c⟩=[.int .u8 1,.string s,.string nm,.slice A k c,.string t,.int .i64 m]:=by
 unfold zAL zBp;rw [h1,hl,hm]
 rfl
theorem zNC {base m0:Nat} {V:Value} {w3 w2:World} {s nm t:ByteArray} {A':Option Addr} {c':Nat} {L:List AB} {E:List (List At)} {nd:Nd} (ho:w3.ownsRow w2.heap.size 44 3 (.slice A' L.length c') L.length (L.flatMap zAi)) (hb:base<=w2.heap.size) (hV:∀k,V.ownBlock=some k->k<w2.heap.size)
 (h1:s.data.toList=(zA0 (nd.attrs::E) (Ns.zHQ nd.name).1).1) (h2:nm.data.toList=(Ns.zHQ nd.name).2) (h3:L.map zAg=(atsE (nd.attrs::E) [] nd.attrs).1) (h4:t.data.toList=[]) (h6:0<=nd.many/\nd.many<=9223372036854775807) (hm:nd.many=(m0:Int)) :
 NdIn (resF E nd).1 s nm t A' c' w3 (OffN base V w3)/\zAL ⟨(resF E nd).1,s,nm,t,A',c'⟩=[.int .u8 1,.string s,.string nm,.slice A' L.length c',.string t,.int .i64 (m0:Int)]:=by
 obtain ⟨r1,r2⟩:=zPc (q:=(resF E nd).1) ho hb hV h1 h2 h3 h4 (show 1<256 by decide) h6.1 h6.2;exact ⟨r1,zPU rfl r2 hm⟩
theorem zOT (B base gv gl gt:Nat) (A:Option Addr) (c:Nat) (v:List Nd) (hl:v.length<=512) (hsm:∀n∈v,zAW n) (hrw:rawV v=true) (hob:∀n∈v,ndOk n=true) (d:Nat) (hIH:zR3 B base gv gl gt A c v d) (m:Nat) (D:List (List UInt8 × AB)) (E:List (List At)) (L:List NB) (V:Value) (r:List Nd) (w:World) (hmd:MapD w m D) (hE:EnvD D E) (hp:L.length<v.length) (hr:zAE (d+1) (v.drop L.length)=some r) (h:RwSt (zBj gv gl gt) 63 B base gv gl gt A c v L V w) (hk:(v[L.length]'hp).kind=1) :
 Calls prog 39 #[.map (some m),.pointer (some ⟨gv,0,none⟩),.pointer (some ⟨gl,0,none⟩),.pointer (some ⟨gt,0,none⟩)] w (zEH (zBj gv gl gt) 63 B base gv gl gt A c v L V (zAK resF zBe (d+1) E (v.drop L.length)) w):=by
 have hs:=hsm _ (List.getElem_mem hp);have hraw:=(zCl.1 hrw _ (List.getElem_mem hp)).2;have hok:=hob _ (List.getElem_mem hp);obtain ⟨i0,hi,hz0,hz1,hz2⟩:=info_parts zFB;have HI:=hI hi;have HZ0:=hI hz0;have HZ1:=hI hz1;have HZ2:=hI hz2;obtain ⟨Va,Vc,rfl⟩:=zAD h.own;obtain ⟨b0,off,x,y,t,A1,c1,hA,hbB,hin,q0,q1,q2,q3,q4,q5⟩:=zCL h.rd hp;have hBw:B<=w.heap.size:=by have:=h.ord;have:=h.sz;omega
 have hdr:=List.drop_eq_getElem_cons hp;obtain ⟨nd,hnd⟩:∃nd,v[L.length]'hp=nd:=⟨_,rfl⟩;rw [hnd] at hin q0 q3 q5 hdr hk hs hraw hok;rw [hdr];obtain ⟨n,hn⟩:∃n,v.length=n:=⟨_,rfl⟩;have HLN:=hI hn;obtain ⟨n1,hn1⟩:∃n1,nd.attrs.length=n1:=⟨_,rfl⟩;have bp:(0:Int)<=(L.length:Int)/\(L.length:Int)<(n:Int):=by omega
 have bn:(n:Int)<=512:=by omega
 have HPN:Hid (L.length<=512):=hI (by omega);have kv:=cell_of_one h.hv;have kl:=cell_of_one h.hl;have HST:=hI h;rw [hn] at kv;rw [hn1] at q3;have HIN:=hI hin;rw [hdr] at hr;obtain ⟨_,hm0,bb,hkids⟩:=zBm hr;rw [Nat.add_sub_cancel] at hkids;obtain ⟨hfn,htx,_,hao⟩:=zCj hok hk;obtain ⟨hfa,hnd2,hla⟩:=zCF.1 hao;rw [zFa (by omega)];obtain ⟨m0,hm0'⟩:∃m0:Nat,nd.many=(m0:Int):=⟨nd.many.toNat,by omega⟩;rw [hm0'] at q5;rw [hm0',Int.toNat_natCast] at hkids;rw [hm0',Int.toNat_natCast];rw [hk,show ((1:Nat):Int)=1 from rfl] at q0
 have bm0:(m0:Int)<=512:=by
  have:=zDU hkids;rw [List.length_drop] at this
  omega
 obtain ⟨W0,hW0⟩:∃W0,w.alloc (.cells #[.int .u8 1,.string x,.string y,.slice A1 n1 c1,.string t,.int .i64 (m0:Int)] 42)=W0:=⟨_,rfl⟩;have HB0:Hid (Below w.heap.size w W0):=hI (by rw [←hW0];exact stpA (Below.refl _ _) _);have HX0:Hid (W0.heap[w.heap.size]?=some (.cells #[.int .u8 1,.string x,.string y,.slice A1 n1 c1,.string t,.int .i64 (m0:Int)] 42 (0,0))):=hI (by rw [←hW0];exact heap_alloc_new w _);have HS0:=hI (h.below HB0.out);have k00:=zAA W0 _ 0 _ _ _ HX0.out;obtain ⟨mb,hmb⟩:∃mb,W0.heap.size=mb:=⟨_,rfl⟩;have HMB:Hid (mb=w.heap.size+1):=hI (by rw [←hmb,←hW0,World.size_alloc])
 have HCL:Hid (Calls prog 40 #[.map (some m)] W0 λe w'=>e=.returned (.map (some mb))/\MapD w' mb D/\Below W0.heap.size W0 w'):=hI (by
  obtain ⟨es,cl,hb,he⟩:=hmd;have hcl:=zPv m D W0 (MapD.kept ⟨es,cl,hb,he⟩ (HB0.out.block m (zAY hb)));rw [hmb] at hcl ⊢;exact hcl.mono λe w' hh=>⟨hh.1,hh.2.1,hh.2.2.1⟩)
 have HRA:Hid (∀W,Below w.heap.size w W->RdS AtS W (λk=>k<w.heap.size) A1 nd.attrs):=hI λW hW=>hin.attrs.keep (λb hb=>Nat.lt_of_lt_of_le hb hBw) λb o hb=>hW.cell (p:=⟨b,o,none⟩) (Nat.lt_of_lt_of_le hb hBw)
 obtain ⟨dq,hdq⟩:∃dq,zBZ nd.attrs=dq:=⟨_,rfl⟩;have HDE:Hid (∀W,Below W0.heap.size W0 W->MapD W mb D->Calls prog 41 #[.map (some mb),.slice A1 n1 c1] W λe w'=>e=.returned (.bool dq)/\Below mb W w'∧W.heap.size<=w'.heap.size/\(zBZ nd.attrs=true->MapD w' mb (insA D nd.attrs))):=hI λW hW hM=>Calls.mono (zMO mb D A1 n1 c1 nd.attrs W hM ((HRA.out W (HB0.out.trans (hW.mono HB0.out.size))).mono λk hk=>by have:=HMB.out;omega) hn1 (by omega) (λa ha=>(hs.each a ha).2.1) dq hdq) λe w' hh=>⟨hh.1,hh.2.1,hh.2.2.1,λh2=>hh.2.2.2 (hdq.symm.trans h2)⟩
 have HE2:Hid (EnvD (insA D nd.attrs) (nd.attrs::E)):=hI (hE.ins (λa ha=>(hfa a ha).1) (zIX hnd2 hraw));obtain ⟨oq,hoq⟩:∃oq,okR (nd.attrs::E) nd.name nd.attrs=oq:=⟨_,rfl⟩
 have HRE:Hid (∀W,zBZ nd.attrs=true->Below w.heap.size w W->W.heap[w.heap.size]?=some (.cells #[.int .u8 1,.string x,.string y,.slice A1 n1 c1,.string t,.int .i64 (m0:Int)] 42 (0,0))->MapD W mb (insA D nd.attrs)->Calls prog 42 #[.map (some mb),.pointer (some ⟨w.heap.size,0,none⟩)] W λe w'=>∃(s nm:ByteArray) (A':Option Addr) (c':Nat) (L3:List AB),e=.returned (.bool oq)/\s.data.toList=(zA0 (nd.attrs::E) (Ns.zHQ nd.name).1).1/\nm.data.toList=(Ns.zHQ nd.name).2/\L3.map zAg=(atsE (nd.attrs::E) [] nd.attrs).1 ∧
  w'.ownsRow W.heap.size 44 3 (.slice A' L3.length c') L3.length (L3.flatMap zAi)/\w'.heap[w.heap.size]?=some (.cells #[.int .u8 1,.string s,.string nm,.slice A' L3.length c',.string t,.int .i64 (m0:Int)] 42 (0,0))/\Below w.heap.size W w'∧W.heap.size<=w'.heap.size/\MapD w' mb (insA D nd.attrs)):=hI λW hdo hW hX hM=>by
  have hr:=zMN mb w.heap.size (insA D nd.attrs) (nd.attrs::E) (.int .u8 1) (.int .i64 (m0:Int)) x y t A1 n1 c1 nd.attrs W hM HE2.out hX (by have:=HMB.out;omega) (RdS.mono (HRA.out W hW) λk hk=>Nat.lt_of_lt_of_le hk hW.size) hn1 (by omega) (by rw [←zAV,hin.name];exact hs.name) (λa ha=>(hs.each a ha).2.1) hraw hdo;rw [hin.name] at hr;refine hr.mono λe w' hh=>?_
  obtain ⟨s,nm,A',c',L3,p1,p2,p3,p4,p5,p6,p7,p8,p9⟩:=hh;exact ⟨s,nm,A',c',L3,by rw [p1,hoq],p2,p3,p4,p5,p6,p7,p8,p9⟩
 have HTX:Hid (t.data.toList=[]):=hI (by rw [hin.text,htx]);have HMN:Hid (0<=nd.many/\nd.many<=9223372036854775807):=hI ⟨hm0,hin.hi⟩;have HM0:=hI hm0';have HBW:=hI hBw;have HIH:=hI hIH;have HK:=hI hkids;obtain ⟨KK,hKK⟩:∃KK,zAb (zAK resF zBe d (zBe E nd)) m0 (v.drop (L.length+1))=KK:=⟨_,rfl⟩;rw [hKK];have HKK:=hI hKK;obtain ⟨WW,hWW⟩:∃WW,((((resF E nd).1::KK.1.1,(resF E nd).2&&KK.1.2),KK.2):(List Nd × Bool) × List Nd)=WW:=⟨_,rfl⟩;have HWL:Hid (WW.1.1=(resF E nd).1::KK.1.1):=hI (by rw [←hWW]);have HWQ:Hid (WW.1.2=(oq&&KK.1.2)):=hI (by rw [←hWW,←hoq];rfl);rw [hWW];have HDQ:=hI hdq;have HOQ:=hI hoq;subst hA;clear hi hz0 hz1 hz2 h hin hdr hk hok hnd hbB hBw hn1 hn hs hraw hr hm0 hkids hfn htx hao hfa hnd2 hla hm0' hmb hmd hE hdq hoq hKK hWW hIH hsm hrw hob hl;clear hp
 go_enter func39,ntmps39
 cases dq with
 | false =>
  have HNO:Hid (oq=false):=hI (by rw [←HOQ.out];unfold okR;rw [zGc _ _ HDQ.out,Bool.and_false])
  go_wp2_with (first
   | (refine wpList_store_row rfl _ _ _ rfl w.heap.size #[.int .u8 1,.string x,.string y,.slice A1 n1 c1,.string t,.int .i64 (m0:Int)] rfl rfl 42 #[.int .u8 0,.string ⟨#[]⟩,.string ⟨#[]⟩,.slice none 0 0,.string ⟨#[]⟩,.int .i64 0] (heap_alloc_new _ _) zBr rfl (by simp [Value.oneCell']) ?_;rw [World.setRow_alloc_new,hW0])
   | (go_at_call 40;(with_reducible refine (HCL.out).mono ?_);rintro e1 w1 ⟨rfl,hm1,hb1⟩;have HB1:=hI hb1;have HM1:=hI hm1;have HX1:=hI (zAB HX0.out hb1);have k13:=zAA w1 _ 3 _ _ _ HX1.out;clear hb1 hm1)
   | (go_at_call 41;(with_reducible refine (HDE.out w1 HB1.out HM1.out).mono ?_);rintro e2 w2 ⟨rfl,hb2,hsz2,hm2⟩;have HB2:=hI hb2;have HSZ2:=hI hsz2;have HB2w:Hid (Below w.heap.size w w2):=hI ((HB0.out.trans (HB1.out.mono HB0.out.size)).trans (hb2.mono (by have:=HMB.out;omega)));clear hb2 hsz2 hm2)
   | fail)
  go_ret
  exact ⟨[],_,by rw [HWQ.out,HNO.out];rfl,FrR.of_below HB2w.out HBW.out,by rw [List.append_nil];exact HST.out.below HB2w.out,λhh=>by rw [HWQ.out,HNO.out] at hh;cases hh⟩
 | true =>
  cases oq with
  | false =>
   go_wp2_with (first
    | (refine wpList_store_row rfl _ _ _ rfl w.heap.size #[.int .u8 1,.string x,.string y,.slice A1 n1 c1,.string t,.int .i64 (m0:Int)] rfl rfl 42 #[.int .u8 0,.string ⟨#[]⟩,.string ⟨#[]⟩,.slice none 0 0,.string ⟨#[]⟩,.int .i64 0] (heap_alloc_new _ _) zBr rfl (by simp [Value.oneCell']) ?_;rw [World.setRow_alloc_new,hW0])
    | (go_at_call 40;(with_reducible refine (HCL.out).mono ?_);rintro e1 w1 ⟨rfl,hm1,hb1⟩;have HB1:=hI hb1;have HM1:=hI hm1;have HX1:=hI (zAB HX0.out hb1);have k13:=zAA w1 _ 3 _ _ _ HX1.out;clear hb1 hm1)
    | (go_at_call 41;(with_reducible refine (HDE.out w1 HB1.out HM1.out).mono ?_);rintro e2 w2 ⟨rfl,hb2,hsz2,hm2⟩;have HB2:=hI hb2;have HSZ2:=hI hsz2;have HB2w:Hid (Below w.heap.size w w2):=hI ((HB0.out.trans (HB1.out.mono HB0.out.size)).trans (hb2.mono (by have:=HMB.out;omega)));have HX2:Hid (w2.heap[w.heap.size]?=some (.cells #[.int .u8 1,.string x,.string y,.slice A1 n1 c1,.string t,.int .i64 (m0:Int)] 42 (0,0))):=hI ((hb2.block _ (by have:=HMB.out;omega)).trans HX1.out);have HM2:=hI (hm2 HDQ.out);clear hb2 hsz2 hm2)
    | (go_at_call 42;(with_reducible refine (HRE.out w2 HDQ.out HB2w.out HX2.out HM2.out).mono ?_);rintro e3 w3 ⟨s3,nm3,A3,c3,L3,rfl,hs3,hnm3,hL3,ho3,hx3,hb3,hz3,hm3⟩;have HB3:Hid (Below w.heap.size w w3):=hI (HB2w.out.trans hb3);have HX3:=hI hx3;have HM3:=hI hm3;have HS3:=hI (HST.out.below HB3.out);have kl3:=cell_of_one HS3.out.hl;have HRI:=hI (zNC (base:=base) (V:=.slice Va L.length Vc) (E:=E) (nd:=nd) ho3 (Nat.le_trans HST.out.sz HB2w.out.size) (λk hk=>Nat.lt_of_lt_of_le (HST.out.own.lt k hk).2 HB2w.out.size) hs3 hnm3 hL3 HTX.out HMN.out HM0.out);have HCE:=hI HRI.out.2;clear hs3 hnm3 hL3 ho3 hx3 hb3 hz3 hm3)
    | fail)
   go_ret
   exact ⟨[],_,by rw [HWQ.out] <;> rfl,FrR.of_below HB3.out HBW.out,by rw [List.append_nil];exact HST.out.below HB3.out,λhh=>by rw [HWQ.out] at hh;cases hh⟩
  | true =>
   go_wp2_with (first
    | (refine wpList_store_row rfl _ _ _ rfl w.heap.size #[.int .u8 1,.string x,.string y,.slice A1 n1 c1,.string t,.int .i64 (m0:Int)] rfl rfl 42 #[.int .u8 0,.string ⟨#[]⟩,.string ⟨#[]⟩,.slice none 0 0,.string ⟨#[]⟩,.int .i64 0] (heap_alloc_new _ _) zBr rfl (by simp [Value.oneCell']) ?_;rw [World.setRow_alloc_new,hW0])
    | (go_at_call 40;(with_reducible refine (HCL.out).mono ?_);rintro e1 w1 ⟨rfl,hm1,hb1⟩;have HB1:=hI hb1;have HM1:=hI hm1;have HX1:=hI (zAB HX0.out hb1);have k13:=zAA w1 _ 3 _ _ _ HX1.out;clear hb1 hm1)
    | (go_at_call 41;(with_reducible refine (HDE.out w1 HB1.out HM1.out).mono ?_);rintro e2 w2 ⟨rfl,hb2,hsz2,hm2⟩;have HB2:=hI hb2;have HSZ2:=hI hsz2;have HB2w:Hid (Below w.heap.size w w2):=hI ((HB0.out.trans (HB1.out.mono HB0.out.size)).trans (hb2.mono (by have:=HMB.out;omega)));have HX2:Hid (w2.heap[w.heap.size]?=some (.cells #[.int .u8 1,.string x,.string y,.slice A1 n1 c1,.string t,.int .i64 (m0:Int)] 42 (0,0))):=hI ((hb2.block _ (by have:=HMB.out;omega)).trans HX1.out);have HM2:=hI (hm2 HDQ.out);clear hb2 hsz2 hm2)
    | (go_at_call 42;(with_reducible refine (HRE.out w2 HDQ.out HB2w.out HX2.out HM2.out).mono ?_);rintro e3 w3 ⟨s3,nm3,A3,c3,L3,rfl,hs3,hnm3,hL3,ho3,hx3,hb3,hz3,hm3⟩;have HB3:Hid (Below w.heap.size w w3):=hI (HB2w.out.trans hb3);have HX3:=hI hx3;have HM3:=hI hm3;have HS3:=hI (HST.out.below HB3.out);have kl3:=cell_of_one HS3.out.hl;have HRI:=hI (zNC (base:=base) (V:=.slice Va L.length Vc) (E:=E) (nd:=nd) ho3 (Nat.le_trans HST.out.sz HB2w.out.size) (λk hk=>Nat.lt_of_lt_of_le (HST.out.own.lt k hk).2 HB2w.out.size) hs3 hnm3 hL3 HTX.out HMN.out HM0.out);have HCE:=hI HRI.out.2;clear hs3 hnm3 hL3 ho3 hx3 hb3 hz3 hm3)
    | (refine wpList_load_row rfl _ _ rfl w.heap.size rfl 42 #[.int .u8 1,.string s3,.string nm3,.slice A3 L3.length c3,.string t,.int .i64 (m0:Int)] (0,0) _ HX3.out underlying42 rfl zBr ?_)
    | (at_builtin;refine wpList_append_own_at _ rfl (.tmp 32) (.tmp 34) 22 rfl base 42 i0 (.agg #[.int .u8 0,.string ⟨#[]⟩,.string ⟨#[]⟩,.slice none 0 0,.string ⟨#[]⟩,.int .i64 0]) 6 88 underlying22 HI.out HZ0.out HZ1.out HZ2.out rfl (by decide) _ L.length _ rfl (zAF HS3.out.own (stpA (Below.refl _ _) _) (Nat.le_refl _)) ⟨w3.heap.size,0,none⟩ 1 1 [.int .u8 1,.string s3,.string nm3,.slice A3 L3.length c3,.string t,.int .i64 (m0:Int)] rfl rfl (zAp w3 [.int .u8 1,.string s3,.string nm3,.slice A3 L3.length c3,.string t,.int .i64 (m0:Int)] 42 _ rfl) (by simp [Value.oneCell']) (by have:=HPN.out;unfold maxLen;omega) (by have:=HPN.out;omega) (by have:=HS3.out.sz;rw [World.size_alloc];omega) ?_;intro v5 w5 hown5 hgr5 _ hat5;obtain ⟨g5,c5,rfl⟩:=zEy hown5;rw [←HCE.out] at hown5;have HPU5:=hI (HS3.out.push (b:=(NB.mk (resF E nd).1 s3 nm3 t A3 c3)) HRI.out.1 hown5 hgr5 (by have:=zNL hat5;rwa [World.size_alloc] at this));have hgl5:w5.heap[gl]?=some (.cells #[.slice Va L.length Vc] 22 (0,0)):=(hgr5.block _ (by rw [World.size_alloc];have:=zAY HS3.out.hl;omega) (λe=>by have:=(HS3.out.own.lt _ e.symm).1;have:=HS3.out.ord;omega)).trans ((Below.heap_alloc _ _ _ (zAY HS3.out.hl)).trans HS3.out.hl);have kl5:=zAA w5 gl 0 _ _ _ hgl5;have fl5:=zAZ w5 gl 0 _ _ hgl5;have hbx5:=(hgr5.block w.heap.size (by rw [World.size_alloc];have:=zAY HX3.out;omega) (λe=>by have:=(HST.out.own.lt _ e.symm).2;omega)).trans ((Below.heap_alloc _ _ _ (zAY HX3.out)).trans HX3.out);have HX5:Hid ((w5.setCell ⟨gl,0,none⟩ (.slice (some ⟨g5,0,none⟩) (L.length+1) c5)).heap[w.heap.size]?=some (.cells #[.int .u8 1,.string s3,.string nm3,.slice A3 L3.length c3,.string t,.int .i64 (m0:Int)] 42 (0,0))):=hI ((zAH w5 gl 0 w.heap.size _ (by have:=HST.out.ord;have:=HST.out.sz;omega)).trans hbx5);have k55:=zAA (w5.setCell ⟨gl,0,none⟩ (.slice (some ⟨g5,0,none⟩) (L.length+1) c5)) _ 5 _ _ _ HX5.out;clear hbx5;clear hown5 hgr5 hat5 hgl5)
    | fail)
   have HM8:Hid (MapD (w5.setCell ⟨gl,0,none⟩ (.slice (some ⟨g5,0,none⟩) (L.length+1) c5)) mb (insA D nd.attrs)):=hI (HPU5.out.2.map HM3.out HS3.out.own HS3.out.hl);clear k55
   go_loopg [38] m0 (λgg i wr=>∃(j:Nat) (b':Bool) (M:List NB) (V':Value),j+gg=m0/\i=.int .i64 j/\zAG (zAE d) j false (v.drop (L.length+1))=some (b',v.drop (L++[(NB.mk (resF E nd).1 s3 nm3 t A3 c3)]++M).length)/\RwSt (zBj gv gl gt) 63 B base gv gl gt (some ⟨b0,off,none⟩) c v (L++[(NB.mk (resF E nd).1 s3 nm3 t A3 c3)]++M) V' wr/\M.map NB.n=(zAb (zAK resF zBe d (zBe E nd)) j (v.drop (L.length+1))).1.1/\(zAb (zAK resF zBe d (zBe E nd)) j (v.drop (L.length+1))).1.2=true/\FrR B gl (.slice (some ⟨g5,0,none⟩) (L.length+1) c5) (w5.setCell ⟨gl,0,none⟩ (.slice (some ⟨g5,0,none⟩) (L.length+1) c5)) V' wr)
   case atStart=>exact ⟨0,false,[],_,by omega,rfl,by rw [zAG,List.append_nil,List.length_append];rfl,by rw [List.append_nil];exact HPU5.out.1,by simp [zAb],by simp [zAb],FrR.refl _ _ _ _⟩
   case round =>
    obtain ⟨j,b',M,V',hjg,rfl,hkd,hst,hM,hq,hfr⟩:=hrel;obtain ⟨L2,hL2⟩:∃L2,L++[(NB.mk (resF E nd).1 s3 nm3 t A3 c3)]++M=L2:=⟨_,rfl⟩;rw [hL2] at hkd hst;have HL2:=hI hL2;have HSTj:=hI hst;have HFR:=hI hfr;have HMj:=hI hM;have HQj:=hI hq;have hrest:=(zEB (f:=resF) (dn:=zBe) (λl r e h=>zBC d l r e h) (zBe E nd) j false _ b' _ hkd).1
    by_cases hlt:j<m0
    · have hlt2:(j:Int)<(m0:Int):=by omega
      obtain ⟨hp2,r2,h1,h2,h3⟩:=zE0 HK.out hkd hlt;have hcall:=HIH.out mb (insA D nd.attrs) (nd.attrs::E) L2 V' r2 wr (hfr.map HM8.out HPU5.out.1.own HPU5.out.1.hl) HE2.out hp2 h1 hst;have hlen2:=(zBC (f:=resF) (dn:=zBe) d _ _ (nd.attrs::E) h1).2;have hsn:=zDy (g:=zAK resF zBe d (zBe E nd)) j (v.drop (L.length+1));rw [hrest] at hsn;obtain ⟨WI,hWI⟩:∃WI,zAK resF zBe d (nd.attrs::E) (v.drop L2.length)=WI:=⟨_,rfl⟩;rw [hWI] at hcall hlen2;rw [show zBe E nd=nd.attrs::E from rfl,hWI] at hsn;obtain ⟨qi,hqi⟩:∃qi,WI.1.2=qi:=⟨_,rfl⟩
      have HSN:Hid ((zAb (zAK resF zBe d (zBe E nd)) (j+1) (v.drop (L.length+1))).1.1=M.map NB.n++WI.1.1/\(zAb (zAK resF zBe d (zBe E nd)) (j+1) (v.drop (L.length+1))).1.2=qi):=hI (by
       rw [show zBe E nd=nd.attrs::E from rfl,hsn,hM,show zBe E nd=nd.attrs::E from rfl,←hqi];refine ⟨rfl,?_⟩;rw [show zBe E nd=nd.attrs::E from rfl] at hq;show (_&&_)=_;rw [hq,Bool.true_and])
      have HC:Hid (Calls prog 39 #[.map (some mb),.pointer (some ⟨gv,0,none⟩),.pointer (some ⟨gl,0,none⟩),.pointer (some ⟨gt,0,none⟩)] wr λe w'=>∃(M2:List NB) (V2:Value),e=.returned (.bool qi)/\FrR B gl V' wr V2 w'∧RwSt (zBj gv gl gt) 63 B base gv gl gt (some ⟨b0,off,none⟩) c v (L2++M2) V2 w'∧(WI.1.2=true->M2.map NB.n=WI.1.1)):=hI (by
       unfold zEH at hcall;refine hcall.mono λe w' hh=>?_
       obtain ⟨M2,V2,e1,e2,e3,e4⟩:=hh;exact ⟨M2,V2,by rw [e1,hqi],e2,e3,e4⟩)
      have HQI:=hI hqi;have kt:=cell_of_one hst.ht;unfold zBj at kt;have H2:Hid (∃b2,zAG (zAE d) (j+1) false (v.drop (L.length+1))=some (b2,v.drop (v.length - r2.length))):=hI ⟨_,h2⟩;have HLE:=hI hlen2;have HLT:=hI hlt;have HP2:=hI hp2;clear hcall hkd h1 h2 h3 hst hfr hM hq hrest hsn hqi hWI hlen2 hL2 hp2 hlt
      cases qi with
      | false =>
       have HNO:Hid (KK.1.2=false):=hI (by rw [←HKK.out];exact zKJ HSN.out.2 (by have:=HLT.out;omega))
       go_wp2_with (first
        | (go_at_call 39;(with_reducible refine (HC.out).mono ?_);rintro e6 w6 ⟨M2,V2,rfl,hf6,hs6,hm6⟩;have HF6:=hI hf6;have HS6:=hI hs6;clear hf6 hs6 hm6)
        | fail)
       go_ret
       exact ⟨[(NB.mk (resF E nd).1 s3 nm3 t A3 c3)]++M++M2,V2,by rw [HWQ.out,HNO.out,Bool.and_false];rfl,((FrR.of_below HB3.out HBW.out).trans HPU5.out.2).trans (HFR.out.trans HF6.out),by rw [←List.append_assoc,←List.append_assoc,HL2.out];exact HS6.out,λhh=>by rw [HWQ.out,HNO.out,Bool.and_false] at hh;cases hh⟩
      | true =>
       go_wp2_with (first
        | (go_at_call 39;(with_reducible refine (HC.out).mono ?_);rintro e6 w6 ⟨M2,V2,rfl,hf6,hs6,hm6⟩;have HF6:=hI hf6;have HS6:=hI hs6;have HM6:=hI (hm6 HQI.out);clear hf6 hs6 hm6)
        | fail)
       go_roundg (gk - 1)
       case measure=>have:=HLT.out;omega
       case rel =>
        obtain ⟨b2,hk2⟩:=H2.out;refine ⟨j+1,b2,M++M2,V2,by have:=HLT.out;omega,by go_num,?_,by rw [←List.append_assoc,HL2.out];exact HS6.out,by rw [List.map_append,HM6.out,HSN.out.1],HSN.out.2,HFR.out.trans HF6.out⟩;rw [hk2,←List.append_assoc,HL2.out,List.length_append];have h9:=congrArg List.length HM6.out;rw [List.length_map] at h9;have h8:=HLE.out;rw [List.length_drop] at h8;have:=HP2.out;rw [show v.length - r2.length=L2.length+M2.length by omega]
    · obtain rfl:j=m0:=by omega
      have hjj:¬((j:Int)<(j:Int)):=by omega
      have HKQ:Hid (KK.1.2=true/\M.map NB.n=KK.1.1):=hI (by rw [←HKK.out];exact ⟨hq,hM⟩);clear hkd hst hfr hM hq hrest hL2
      go_wp2_with fail
      go_ret
      exact ⟨[(NB.mk (resF E nd).1 s3 nm3 t A3 c3)]++M,V',by rw [HWQ.out,HKQ.out.1];rfl,((FrR.of_below HB3.out HBW.out).trans HPU5.out.2).trans HFR.out,by rw [←List.append_assoc,HL2.out];exact HSTj.out,λ_=>by rw [List.map_append,HKQ.out.2,HWL.out];rfl⟩
theorem zPz (B base gv gl gt:Nat) (A:Option Addr) (c:Nat) (v:List Nd) (hl:v.length<=512) (hsm:∀n∈v,zAW n) (hrw:rawV v=true) (hob:∀n∈v,ndOk n=true):∀d,zR3 B base gv gl gt A c v d:=by
 intro d
 induction d with
 | zero =>
  intro m D E L V r w hm hE hp hr h
  have hk:(v[L.length]'hp).kind=2:=by
   have h':=hr;rw [List.drop_eq_getElem_cons hp,zAE] at h'
   by_cases hn:ndOk (v[L.length]'hp)=true/\(v[L.length]'hp).kind=2
   · exact hn.2
   · rw [if_neg hn] at h';cases h'
  exact zJX B base gv gl gt A c v hl m 0 E L V w hp h hk (hob _ (List.getElem_mem hp))
 | succ d ih =>
  intro m D E L V r w hm hE hp hr h;have hok:=hob _ (List.getElem_mem hp);rcases zBX hok with hk | hk
  · exact zOT B base gv gl gt A c v hl hsm hrw hob d ih m D E L V r w hm hE hp hr h hk
  · exact zJX B base gv gl gt A c v hl m (d+1) E L V w hp h hk hok
theorem zRC:(prog.info? 9).map (λi=>(i.zero,i.size,i.bytes))=some (some (.string ⟨#[]⟩),1,16):=by kernel_rfl
def zIq (acc:List (List UInt8)) (a:At):List (List UInt8):=if a.space=[]∨a.space=zAr∨a.space∈acc then acc else acc++[a.space]
theorem zEJ:∀(l:List At) (acc:List (List UInt8)),zAn acc l=l.foldl zIq acc
 | [],acc=>rfl
 | a::l,acc=>by
  rw [zAn,List.foldl_cons];unfold zIq
  split <;> rw [zEJ l]
  · rfl
  · rfl
structure NuSt (l:List At) (j:Nat) (base:Nat) (w:World) (S:List ByteArray) (V:Value) (wr:World):Prop where
 fold:(l.take j).foldl zIq []=S.map (·.data.toList)
 len:S.length<=j
 own:wr.ownsRow base 9 1 V S.length (S.map Value.string)
 sz:base<=wr.heap.size
 below:Below base w wr
theorem NuSt.skip {l:List At} {j base:Nat} {w:World} {S:List ByteArray} {V:Value} {wr:World} (h:NuSt l j base w S V wr) {a:At} (ha:l.take (j+1)=l.take j++[a]) (hd:a.space=[]∨a.space=zAr∨a.space∈S.map (·.data.toList)) {w':World} (hb:Below wr.heap.size wr w'):NuSt l (j+1) base w S V w':=by
 refine ⟨?_,Nat.le_succ_of_le h.len,zAF h.own hb (Nat.le_refl _),Nat.le_trans h.sz hb.size,h.below.trans (hb.mono h.sz)⟩;rw [ha,List.foldl_append,h.fold];show zIq _ a=_;unfold zIq;rw [if_pos hd]
theorem NuSt.snoc {l:List At} {j base:Nat} {w:World} {S:List ByteArray} {V:Value} {wr:World} (h:NuSt l j base w S V wr) {a:At} (ha:l.take (j+1)=l.take j++[a]) (hd:¬(a.space=[]∨a.space=zAr∨a.space∈S.map (·.data.toList))) {x:ByteArray} (hx:x.data.toList=a.space) {w4 w5:World} {V5:Value}
 (h4:Below base w w4) (hz4:base<=w4.heap.size) (hV:∀g,V.ownBlock=some g->base<=g) (hown:w5.ownsRow base 9 1 V5 (S.length+1) (S.map Value.string++[.string x])) (hgr:w4.grownBy w5 V.ownBlock):NuSt l (j+1) base w (S++[x]) V5 w5:=by
 refine ⟨?_,by rw [List.length_append];exact Nat.succ_le_succ h.len,?_,Nat.le_trans hz4 hgr.size,h4.grown hgr hz4 hV⟩
 · rw [ha,List.foldl_append,h.fold]
   show zIq _ a=_;unfold zIq;rw [if_neg hd,List.map_append,List.map_cons,List.map_nil,hx]
 · rw [List.length_append,List.map_append]
   exact hown
theorem zMD {w:World} {base n c:Nat} {A:Option Addr} {S:List ByteArray} (h:w.ownsRow base 9 1 (.slice A n c) n (S.map Value.string)) (hn:S.length=n) {k:Nat} (hk:k<n) :
 ∃g off,A=some ⟨g,off,none⟩/\w.cell? ⟨g,off+k,none⟩=some (.string (S[k]'(by omega))):=by
 rcases h.2 with ⟨e1,h0⟩ | ⟨g,cap,cur,hv,hb,hg,hnc,hcm,_,_⟩
 · injection e1 with e1 e2 e3
   omega
 · injection hv with e1 e2 e3
   subst e1 e3;refine ⟨g,0,rfl,?_⟩;have:=h.cells (g:=g) rfl k (.string (S[k]'(by omega))) (by rw [List.getElem?_map,List.getElem?_eq_getElem (by omega)];rfl);rw [zBB] at this;exact this
def zRB (l:List At) (w:World) (e:Ending) (w':World):Prop:=∃(A:Option Addr) (c:Nat) (S:List ByteArray),e=.returned (.slice A S.length c)/\S.map (·.data.toList)=zAn [] l/\w'.ownsRow w.heap.size 9 1 (.slice A S.length c) S.length (S.map Value.string)/\Below w.heap.size w w'
theorem zK8 (A:Option Addr) (n c:Nat) (l:List At) (w:World) (hr:RdB AtS w A l) (hn:l.length=n) (hna:n<=1000000) :
 Calls prog 92 #[.slice A n c] w (zRB l w):=by
 obtain ⟨i0,hi,hz0,hz1,hz2⟩:=info_parts zRC;have HI:=hI hi;have HZ0:=hI hz0;have HZ1:=hI hz1;have HZ2:=hI hz2;have HR:=hI hr;have HN:=hI hn;have bn:(n:Int)<=1000000:=by omega
 clear hi hz0 hz1 hz2 hr hn
 go_enter func92,ntmps92
 go_wp2_with fail
 go_step3
 go_wp2_with fail
 go_step3
 go_wp2_with fail
 go_loopg [3,10] n (λgg x3 i wr=>∃(j:Nat) (S:List ByteArray),j+gg=n/\i=.int .i64 j/\(∃A1 c1,x3=.slice A1 S.length c1)/\NuSt l j w.heap.size w S x3 wr)
 case atStart=>exact ⟨0,[],by omega,rfl,⟨none,0,rfl⟩,⟨rfl,Nat.le_refl _,World.ownsRow_nil _ _ _ _,Nat.le_refl _,Below.refl _ _⟩⟩
 case round =>
  obtain ⟨j,S,hjg,rfl,⟨A1,c1,rfl⟩,hst⟩:=hrel;have HST:=hI hst;have HVB:Hid (∀g,(Value.slice A1 S.length c1).ownBlock=some g->w.heap.size<=g):=hI λg hg=>(hst.own.lt g hg).1
  by_cases hlt:j<n
  · obtain ⟨g,rfl⟩:∃g,gk=g+1:=⟨gk - 1,by omega⟩
    have HG:Hid (g<g+1):=Nat.lt_succ_self g;have hjl:j<l.length:=by rw [HN.out];exact hlt
    obtain ⟨b0,off,x2,y2,z2,hA,hbB,hx,hy,hz,c0,c1',c2⟩:=zDL HR.out hjl;obtain ⟨a,ha⟩:∃a,l[j]'hjl=a:=⟨_,rfl⟩;rw [ha] at hx;have q0:=(hst.below.cell (p:=⟨b0,_,none⟩) hbB).trans c0;have q1:=(hst.below.cell (p:=⟨b0,_,none⟩) hbB).trans c1';have q2:=(hst.below.cell (p:=⟨b0,_,none⟩) hbB).trans c2;have HTK:Hid (l.take (j+1)=l.take j++[a]):=hI (by rw [List.take_succ_eq_append_getElem hjl,ha]);have HXD:=hI hx;have bj:(0:Int)<=(j:Int)/\(j:Int)<(n:Int):=by omega
    have HJG:=hI hjg;obtain ⟨wo,rfl⟩:∃wo:World,wo=wr:=⟨_,rfl⟩;obtain ⟨W1,hW1⟩:∃W1,wo.alloc (.cells #[.string x2,.string y2,.string z2] 44)=W1:=⟨_,rfl⟩;have HB1:Hid (Below wo.heap.size wo W1):=hI (by rw [←hW1];exact stpA (Below.refl _ _) _);have HX1:Hid (W1.heap[wo.heap.size]?=some (.cells #[.string x2,.string y2,.string z2] 44 (0,0))):=hI (by rw [←hW1];exact heap_alloc_new wo _);have k0:=zAA W1 _ 0 _ _ _ HX1.out;obtain ⟨p1,h1⟩:∃p,decide (x2.data.toList=[])=p:=⟨_,rfl⟩;obtain ⟨p2,h2⟩:∃p,decide (x2.data.toList=zAr)=p:=⟨_,rfl⟩;have f1:=zD2 x2 p1 h1;have f2:=zCO x2 zAr p2 h2;unfold zAr at f2;subst hA
    cases p1 with
    | true =>
     have HNX:Hid (NuSt l (j+1) w.heap.size w S (.slice A1 S.length c1) W1):=hI (hst.skip HTK.out (.inl (by rw [←hx];exact of_decide_eq_true h1)) HB1.out);clear hst hx hy hz c0 c1' c2 ha hjl hbB h1 h2 hjg
     go_wp2_with (first
      | (refine wpList_store_row rfl _ _ _ rfl wo.heap.size #[.string x2,.string y2,.string z2] rfl rfl 44 #[.string ⟨#[]⟩,.string ⟨#[]⟩,.string ⟨#[]⟩] (heap_alloc_new _ _) zAX rfl (by simp [Value.oneCell']) ?_;rw [World.setRow_alloc_new,hW1])
      | fail)
     go_roundg g
     case measure=>exact HG.out
     case rel=>exact ⟨j+1,S,by have:=HJG.out;omega,by go_num,⟨_,_,rfl⟩,HNX.out⟩
    | false =>
     cases p2 with
     | true =>
      have HNX:Hid (NuSt l (j+1) w.heap.size w S (.slice A1 S.length c1) W1):=hI (hst.skip HTK.out (.inr (.inl (by rw [←hx];exact of_decide_eq_true h2))) HB1.out);clear hst hx hy hz c0 c1' c2 ha hjl hbB h1 h2 hjg
      go_wp2_with (first
       | (refine wpList_store_row rfl _ _ _ rfl wo.heap.size #[.string x2,.string y2,.string z2] rfl rfl 44 #[.string ⟨#[]⟩,.string ⟨#[]⟩,.string ⟨#[]⟩] (heap_alloc_new _ _) zAX rfl (by simp [Value.oneCell']) ?_;rw [World.setRow_alloc_new,hW1])
       | fail)
      go_roundg g
      case measure=>exact HG.out
      case rel=>exact ⟨j+1,S,by have:=HJG.out;omega,by go_num,⟨_,_,rfl⟩,HNX.out⟩
     | false =>
      have HNE:Hid (a.space≠[]/\a.space≠zAr):=hI (by rw [←hx];exact ⟨of_decide_eq_false h1,of_decide_eq_false h2⟩);have HSK:Hid (a.space∈S.map (·.data.toList)->NuSt l (j+1) w.heap.size w S (.slice A1 S.length c1) W1):=hI λhm=>hst.skip HTK.out (.inr (.inr hm)) HB1.out
      have hbS:(S.length:Int)<=1000000:=by have:=hst.len;omega
      clear hst hx hy hz c0 c1' c2 ha hjl hbB h1 h2 hjg
      go_wp2_with (first
       | (refine wpList_store_row rfl _ _ _ rfl wo.heap.size #[.string x2,.string y2,.string z2] rfl rfl 44 #[.string ⟨#[]⟩,.string ⟨#[]⟩,.string ⟨#[]⟩] (heap_alloc_new _ _) zAX rfl (by simp [Value.oneCell']) ?_;rw [World.setRow_alloc_new,hW1])
       | fail)
      go_loopg [24] S.length (λgg i wr=>∃k:Nat,k+gg=S.length/\i=.int .i64 k/\wr=W1/\a.space∉(S.take k).map (·.data.toList))
      case atStart=>exact ⟨0,by omega,rfl,rfl,by simp⟩
      case round =>
       obtain ⟨k,hkg,rfl,rfl,hno⟩:=hrel
       by_cases hlk:k<S.length
       · obtain ⟨gs,offs,hA2,hcs⟩:=zMD (zAF HST.out.own HB1.out (Nat.le_refl _)) rfl hlk
         obtain ⟨s,hs⟩:∃s,S[k]'hlk=s:=⟨_,rfl⟩;rw [hs] at hcs;obtain ⟨qs,hqs⟩:∃q,decide (s.data.toList=x2.data.toList)=q:=⟨_,rfl⟩;have f3:=zJ1 s x2 qs hqs;have bk:(0:Int)<=(k:Int)/\(k:Int)<(S.length:Int):=by omega
         cases qs with
         | true =>
          have HNX:=hI (HSK.out (by rw [←HXD.out,←of_decide_eq_true hqs,←hs];exact List.mem_map.2 ⟨_,List.getElem_mem hlk,rfl⟩));subst hA2;clear hno hs hqs hkg HSK HST
          go_wp2_with fail
          go_roundg g
          case measure=>exact HG.out
          case rel=>exact ⟨j+1,S,by have:=HJG.out;omega,by go_num,⟨_,_,rfl⟩,HNX.out⟩
         | false =>
          have HNO:Hid (a.space∉(S.take (k+1)).map (·.data.toList)):=hI (by
           rw [List.take_succ_eq_append_getElem hlk,List.map_append,List.mem_append,hs];rintro (h | h)
           · exact hno h
           · rw [List.map_cons,List.map_nil,List.mem_singleton,←HXD.out] at h
             exact absurd h.symm (of_decide_eq_false hqs))
          have HKG:=hI hkg;subst hA2;clear hno hs hqs hkg
          go_wp2_with fail
          go_roundg (gk - 1)
          case measure=>have:=HKG.out;omega
          case rel=>exact ⟨k+1,by have:=HKG.out;omega,by go_num,rfl,HNO.out⟩
       · obtain rfl:k=S.length:=by omega
         have hjj:¬((S.length:Int)<(S.length:Int)):=by omega
         have HND:Hid (¬(a.space=[]∨a.space=zAr∨a.space∈S.map (·.data.toList))):=hI (by
          rw [List.take_length] at hno;rintro (h | h | h)
          · exact HNE.out.1 h
          · exact HNE.out.2 h
          · exact hno h)
         clear hno hkg HSK
         go_wp2_with (first
          | (at_builtin;refine wpList_append_own_at _ rfl (.tmp 33) (.tmp 36) 110 rfl w.heap.size 9 i0 (.string ⟨#[]⟩) 1 16 underlying110 HI.out HZ0.out HZ1.out HZ2.out rfl (by decide) _ S.length _ rfl (zAF HST.out.own (stpA HB1.out _) (Nat.le_refl _)) ⟨wr.heap.size,0,none⟩ 1 1 [.string x2] rfl rfl (zAp wr [.string x2] 9 _ rfl) (by simp [Value.oneCell']) (by have:=HST.out.len;unfold maxLen;omega) (by have:=HST.out.len;omega) (by have:=HST.out.sz;have:=HB1.out.size;rw [World.size_alloc];omega) ?_;intro v5 w5 hown5 hgr5 _ _;obtain ⟨A5,c5,rfl⟩:=zAD hown5;have HST5:=hI (HST.out.snoc HTK.out HND.out HXD.out (HST.out.below.trans ((stpA HB1.out _).mono HST.out.sz)) (by have:=HST.out.sz;have:=HB1.out.size;rw [World.size_alloc];omega) HVB.out hown5 hgr5);clear hown5 hgr5)
          | fail)
         go_roundg g
         case measure=>exact HG.out
         case rel=>exact ⟨j+1,S++[x2],by have:=HJG.out;omega,by go_num,⟨_,_,by rw [List.length_append];rfl⟩,HST5.out⟩
  · obtain rfl:j=n:=by omega
    have hjj:¬((j:Int)<(j:Int)):=by omega
    have hfold:=hst.fold;rw [←HN.out,List.take_length,←zEJ] at hfold;have HF:=hI hfold.symm;clear hst hfold
    go_wp2_with fail
    try rw [Exit.noGoto_ret]
    go_ret
    exact ⟨A1,c1,S,rfl,HF.out,HST.out.own,HST.out.below⟩
theorem zHU {x y:ByteArray} (h:x.data.toList=y.data.toList):x=y:=ByteArray.ext (Array.ext' h)
theorem zIf (S:List ByteArray) (j:Nat) (h:j<S.length):S.getD j ByteArray.empty=S[j]:=by
 rw [List.getD_eq_getElem?_getD,List.getElem?_eq_getElem h]
 rfl
theorem zR0 (A:Option Addr) (n c base:Nat) (S:List ByteArray) (w:World) (h:w.ownsRow base 9 1 (.slice A n c) n (S.map Value.string)) (hn:S.length=n) (hb:n<=1000000) (x:ByteArray) (k:Nat) (hm:x.data.toList∈S.map (·.data.toList)) (hk:(S.map (·.data.toList)).idxOf x.data.toList=k) :
 Calls prog 94 #[.slice A n c,.string x] w λe w'=>e=.returned (.int .i64 (k:Int))/\Below w.heap.size w w':=by
 have hlt:k<S.length:=by
  have:=List.idxOf_lt_length_of_mem hm;rw [hk,List.length_map] at this;exact this
 have hkn:k<n:=by rw [←hn];exact hlt
 obtain ⟨g,off,rfl,_⟩:=zMD h hn hkn
 have hc:∀j,j<S.length->w.cell? ⟨g,off+j,none⟩=some (.string (S.getD j ByteArray.empty)):=λj hj=>by
  obtain ⟨g2,off2,e,h2⟩:=zMD h hn (k:=j) (by omega);injection e with e;injection e with e1 e2;subst e1 e2;rw [h2,zIf S j hj]
 have hi:Lib.idxOfS (S.take n) x=(k:Int):=by
  refine Lib.idxOfS_hit S n k x hkn (by omega) ?_ λj hj=>?_
  · rw [zIf S k hlt]
    apply zHU;have:=List.getElem_idxOf (x:=x.data.toList) (xs:=S.map (·.data.toList)) (by rw [hk,List.length_map];exact hlt);simp only [hk,List.getElem_map] at this;exact this
  · rw [zIf S j (by omega)]
    intro e
    have hj2:j<(S.map (·.data.toList)).findIdx (·==x.data.toList):=by
     have:(S.map (·.data.toList)).findIdx (·==x.data.toList)=k:=hk;rw [this];exact hj
    have:=List.not_of_lt_findIdx hj2;rw [List.getElem_map,e] at this
    simp at this
 refine (Tryz.slices_Index_string g off n c S x w (by omega) (by omega) hc).mono λe w' h3=>?_
 obtain ⟨h3,rfl⟩:=h3;exact ⟨by rw [h3,hi],Below.refl _ _⟩
theorem zHK:∀(i:Nat) (S:List (List UInt8)) (s:List UInt8),numD i (S++[s])=numD i S++[⟨[],zAQ++58::zBf (i+S.length),s⟩]
 | i,[],s=>rfl
 | i,t::S,s=>by
  rw [List.cons_append,numD,numD,zHK (i+1) S s,List.length_cons,show i+1+S.length=i+(S.length+1) by omega]
  rfl
theorem zCE:∀(l:List At) (acc:List (List UInt8)),(zAn acc l).length<=acc.length+l.length
 | [],acc=>Nat.le_refl _
 | a::l,acc=>by
  rw [zAn,List.length_cons]
  split
  · have:=zCE l acc
    omega
  · have:=zCE l (acc++[a.space])
    rw [List.length_append] at this
    simp at this
    omega
structure BaSt (base bS:Nat) (w:World) (L:List AB) (V:Value) (S:List ByteArray) (VS:Value) (wr:World):Prop where
 own:wr.ownsRow base 44 3 V L.length (L.flatMap zAi)
 sp:wr.ownsRow bS 9 1 VS S.length (S.map Value.string)
 ne:∀g,V.ownBlock=some g->VS.ownBlock≠some g
 sz:base<=wr.heap.size
 below:Below base w wr
theorem BaSt.on {base bS:Nat} {w:World} {L:List AB} {V:Value} {S:List ByteArray} {VS:Value} {wr w':World} (h:BaSt base bS w L V S VS wr) (hb:Below wr.heap.size wr w'):BaSt base bS w L V S VS w' :=
 ⟨zAF h.own hb (Nat.le_refl _),zAF h.sp hb (Nat.le_refl _),h.ne,Nat.le_trans h.sz hb.size,h.below.trans (hb.mono h.sz)⟩
theorem BaSt.snoc {base bS:Nat} {w:World} {L:List AB} {V:Value} {S:List ByteArray} {VS:Value} {wr w4 w5:World} {V5:Value} (h:BaSt base bS w L V S VS wr) (h4:Below wr.heap.size wr w4) (b:AB)
 (hown:w5.ownsRow base 44 3 V5 (L.length+1) (L.flatMap zAi++zAi b)) (hgr:w4.grownBy w5 V.ownBlock) (hat:V5.ownBlock=V.ownBlock∨V5.ownBlock=some w4.heap.size):BaSt base bS w (L++[b]) V5 S VS w5:=by
 have h':=h.on h4;refine ⟨?_,?_,λg hg=>?_,Nat.le_trans h'.sz hgr.size,h'.below.grown hgr h'.sz λg hg=>(h'.own.lt g hg).1⟩
 · rw [List.length_append,List.flatMap_append,List.flatMap_cons,List.flatMap_nil,List.append_nil]
   exact hown
 · refine h'.sp.kept hgr ?_
   cases hv:VS.ownBlock with
   | none=>exact .inl rfl
   | some g=>exact .inr λe=>h'.ne g e.symm hv
 · rcases hat with e | e
   · exact h'.ne g (e.symm.trans hg)
   · intro hs
     rw [e] at hg;injection hg with hg;have:=(h'.sp.lt g hs).2
     omega
theorem zFD:∀(d n:Nat),n<10 ^ (d+1)->(dg n).length<=d+1
 | 0,n,h=>by rw [zB8 (by simpa using h)];simp
 | d+1,n,h=>by
  by_cases h1:n<10
  · rw [zB8 h1];simp
  · rw [zDS (by omega),List.length_append]
    have:=zFD d (n / 10) (by rw [Nat.pow_succ] at h;omega)
    simp
    omega
def TbH (w : World) : Prop := Lib.TabIs prog w "internal/strconv.uint64pow10" .u64 Lib.pow10Tab
theorem TbH.to {w w':World} (h:TbH w) (hb:Below w.heap.size w w'):TbH w':=(Lib.tabBelow_of_tabIs h) w' hb
theorem zQi (u:Nat):Lib.decDigits u=dg u:=by
 induction u using Nat.strongRecOn with
 | ind u ih =>
  rw [Lib.decDigits]
  by_cases h:u<10
  · rw [dif_pos h,zB8 h];rfl
  · rw [dif_neg h,zDS (by omega),ih (u / 10) (by omega)];rfl
theorem zSn (k:Nat) (hk:k<=9007199254740991) (t:ByteArray) (ht:t=⟨(dg k).toArray⟩) (w:World) (hT:TbH w) :
 Calls prog 127 #[.int .i64 k] w λe w'=>e=.returned (.string t)/\Below w.heap.size w w':=by
 refine (Tryz.strconv_Itoa (k:Int) (by omega) (by omega) w hT).mono λe w' h=>?_
 obtain ⟨h1,j,os,h2⟩:=h;refine ⟨?_,by rw [h2];exact Lib.below_grow _ w (Nat.le_refl _) j os⟩;rw [h1,Lib.itoa_nonneg,zQi,ht]
theorem zET (k:Nat) (hk:k<=1000000) (t:ByteArray) (ht:t.data.toList=zBf k) (w:World) (hT:TbH w) :
 Calls prog 93 #[.int .i64 k] w λe w'=>e=.returned (.string t)/\Below w.heap.size w w':=by
 obtain ⟨s,hs⟩:∃s:ByteArray,s=⟨(dg (k+1)).toArray⟩:=⟨_,rfl⟩
 have hsz:s.size<=7:=by
  rw [hs];show (dg (k+1)).toArray.size<=7;rw [List.size_toArray];exact zFD 6 (k+1) (by omega)
 have l1:¬9223372036854775807<1+s.size:=by omega
 have HT2:Hid ((⟨#[110]⟩:ByteArray)++s=t):=hI (by
  apply ByteArray.ext;apply Array.ext';rw [ht,hs]
  simp [zBf])
 have HC:Hid (Calls prog 127 #[.int .i64 ((k:Int)+1)] w λe w'=>e=.returned (.string s)/\Below w.heap.size w w'):=hI (by
  have:=zSn (k+1) (by omega) s hs w hT
  rwa [show (((k+1:Nat)):Int)=(k:Int)+1 by omega] at this)
 have bk:(0:Int)<=(k:Int)/\(k:Int)<=1000000:=by omega
 clear hT ht hs hsz
 go_enter func93,ntmps93
 go_wp2_with (first
  | (go_at_call 127;(with_reducible refine HC.out.mono ?_);rintro e w2 ⟨rfl,hb2⟩;have HB2:=hI hb2;clear hb2)
  | fail)
 go_ret
 rw [←HT2.out];exact ⟨rfl,HB2.out⟩
end Hx
end Go.Proofs.YtlgppednjkbgiaaGreatDoor
