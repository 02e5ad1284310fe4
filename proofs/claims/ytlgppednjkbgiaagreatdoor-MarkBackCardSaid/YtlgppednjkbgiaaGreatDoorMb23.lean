/- Texts put together. -/
import Derived.Test.YtlgppednjkbgiaaGreatDoorMbA
import Derived.Test.YtlgppednjkbgiaaGreatDoorMb16
import Derived.Test.YtlgppednjkbgiaaGreatDoorMb12
import Derived.Test.YtlgppednjkbgiaaGreatDoorMb20
import Derived.Test.YtlgppednjkbgiaaGreatDoorMb22
import Derived.Test.YtlgppednjkbgiaaGreatDoorMb15
import Derived.Deep.Cut
import Derived.Test.YtlgppednjkbgiaaGreatDoorMb19
set_option maxRecDepth 100000
set_option maxHeartbeats 16000000
set_option linter.unusedVariables false
set_option linter.unusedSimpArgs false
namespace Go.Proofs.YtlgppednjkbgiaaGreatDoor
open Go.RowKit Go.Proofs.Tryz
namespace Hx
open Lx Tr Tx Nmb Es
def zLP (gv gn gl gt:Nat):Value:=.func (.func 136) #[] #[.pointer (some ⟨gv,0,none⟩),.pointer (some ⟨gn,0,none⟩),.pointer (some ⟨gl,0,none⟩),.pointer (some ⟨gt,0,none⟩)]
def OffT (base:Nat) (V:Value) (b:TB):Prop:=0<b.t.attrs.length->∀ad,b.A=some ad->some ad.block≠V.ownBlock/\base<=ad.block
structure TlSt (B base gv gn gl gt:Nat) (A:Option Addr) (c:Nat) (v:List Nd) (p:Nat) (L:List TB) (V:Value) (wr:World):Prop where
 hv:wr.heap[gv]?=some (.cells #[.slice A v.length c] 22 (0,0))
 hn:wr.heap[gn]?=some (.cells #[.int .i64 (p:Int)] 3 (0,0))
 hl:wr.heap[gl]?=some (.cells #[V] 83 (0,0))
 ht:wr.heap[gt]?=some (.cells #[zLP gv gn gl gt] 1 (0,0))
 rd:RdS NdS wr (λb=>b<B) A v
 own:wr.ownsRow base 131 4 V L.length (L.flatMap zAd)
 tk:∀b∈L,TkC.R wr wr.heap.size (zAd b) b.t/\OffT base V b
 ord:B<=gv/\gv<gl/\gl<gn/\gn<gt/\gt<base
 sz:base<=wr.heap.size
structure Fr10 (B gn gl:Nat) (V:Value) (w:World) (V':Value) (w':World):Prop where
 bel:Below B w w'
 blk:∀k,k<w.heap.size->k≠gn->k≠gl->some k≠V.ownBlock->w'.heap[k]?=w.heap[k]?
 lie:∀k,k<w.heap.size->V'.ownBlock=some k->V.ownBlock=some k
theorem Fr10.refl (B gn gl:Nat) (V:Value) (w:World):Fr10 B gn gl V w V w:=⟨Below.refl _ _,λ_ _ _ _ _=>rfl,λ_ _ h=>h⟩
theorem Fr10.trans {B gn gl:Nat} {V V1 V2:Value} {w w1 w2:World} (h:Fr10 B gn gl V w V1 w1) (k:Fr10 B gn gl V1 w1 V2 w2):Fr10 B gn gl V w V2 w2 :=
 ⟨h.bel.trans k.bel,λq h1 h2 h3 h4=>(k.blk q (Nat.lt_of_lt_of_le h1 h.bel.size) h2 h3 (λe=>h4 (h.lie q h1 e.symm).symm)).trans (h.blk q h1 h2 h3 h4),λq h1 h2=>h.lie q h1 (k.lie q (Nat.lt_of_lt_of_le h1 h.bel.size) h2)⟩
theorem Fr10.of_below {B gn gl:Nat} {V:Value} {w w':World} (h:Below w.heap.size w w') (hB:B<=w.heap.size):Fr10 B gn gl V w V w':=⟨h.mono hB,λk hk _ _ _=>h.block k hk,λ_ _ e=>e⟩
theorem zMF {w w':World} {b:TB} (h:TkC.R w w.heap.size (zAd b) b.t) (hs:w.heap.size<=w'.heap.size) (hk:0<b.t.attrs.length->∀ad,b.A=some ad->ad.block<w.heap.size->w'.heap[ad.block]?=w.heap[ad.block]?):TkC.R w' w'.heap.size (zAd b) b.t:=by
 obtain ⟨x',A',c',u',e1,e2,e3,e4,e5,e6,e7,e8⟩:=h;have e1':=e1;unfold zAd at e1';injection e1' with _ e1';injection e1' with _ e1';injection e1' with e9 _;injection e9 with e9 _ _;subst e9;refine ⟨x',_,c',u',e1,e2,e3,e4,e5,e6,e7,λhp=>?_⟩;obtain ⟨bb,off,e,hlt,hc⟩:=e8 hp;refine ⟨bb,off,e,Nat.lt_of_lt_of_le hlt hs,λj hj=>?_⟩;obtain ⟨cs,k1,k2⟩:=hc j hj;exact ⟨cs,k1,λi hi=>(zCc (hk hp _ e hlt)).trans (k2 i hi)⟩
theorem zSY {w:World} {b:TB} (h:TkC.R w w.heap.size (zAd b) b.t) (hp:0<b.t.attrs.length) (ad:Addr) (e:b.A=some ad):ad.block<w.heap.size:=by
 obtain ⟨x',A',c',u',e1,e2,e3,e4,e5,e6,e7,e8⟩:=h;have e1':=e1;unfold zAd at e1';injection e1' with _ e1';injection e1' with _ e1';injection e1' with e9 _;injection e9 with e9 _ _;obtain ⟨bb,off,e10,hlt,_⟩:=e8 hp;rw [e9] at e;rw [e] at e10;injection e10 with e10;rw [e10];exact hlt
section
variable {B base gv gn gl gt:Nat} {A:Option Addr} {c:Nat} {v:List Nd} {p:Nat} {L:List TB} {V:Value} {wr:World}
theorem TlSt.below (h:TlSt B base gv gn gl gt A c v p L V wr) {w':World} (k:Below wr.heap.size wr w'):TlSt B base gv gn gl gt A c v p L V w' :=
 ⟨zAB h.hv k,zAB h.hn k,zAB h.hl k,zAB h.ht k,h.rd.keep (λ_ hb=>hb) λb o hb=>k.cell (p:=⟨b,o,none⟩) (by have:=h.ord.1;have:=zAY h.hv;show b<_;omega),zAF h.own k (Nat.le_refl _),
  λb hb=>⟨zMF (h.tk b hb).1 k.size λ_ ad _ hlt=>k.block _ hlt,(h.tk b hb).2⟩,h.ord,Nat.le_trans h.sz k.size⟩
theorem TlSt.setn (h:TlSt B base gv gn gl gt A c v p L V wr) (p':Nat):TlSt B base gv gn gl gt A c v p' L V (wr.setCell ⟨gn,0,none⟩ (.int .i64 (p':Int)))/\Fr10 B gn gl V wr V (wr.setCell ⟨gn,0,none⟩ (.int .i64 (p':Int))):=by
 have ho:=h.ord;have other:∀q,q≠gn->(wr.setCell ⟨gn,0,none⟩ (.int .i64 (p':Int))).heap[q]?=wr.heap[q]?:=λq hq=>zAH wr gn 0 q _ hq
 refine ⟨⟨(other gv (by omega)).trans h.hv,one_setCell h.hn,(other gl (by omega)).trans h.hl,(other gt (by omega)).trans h.ht,h.rd.keep (λ_ hb=>hb) λb o hb=>zCc (other b (by omega)),zAf h.own gn 0 (by omega) _,
  λb hb=>⟨zMF (h.tk b hb).1 (by simp [World.setCell]) λhp ad e _=>other _ (by have:=((h.tk b hb).2 hp ad e).2;omega),(h.tk b hb).2⟩,h.ord,by have:=h.sz;simpa [World.setCell] using this⟩,
  (Below.refl B wr).setCell (p:=⟨gn,0,none⟩) (by show B<=gn;omega) _,λk _ hk _ _=>other k hk,λ_ _ e=>e⟩
theorem TlSt.push (h:TlSt B base gv gn gl gt A c v p L V wr) {b:TB} {ob:Obj} {w6:World} {g4 c4:Nat} (hR:TkC.R wr wr.heap.size (zAd b) b.t) (hO:OffT base V b)
 (hown:w6.ownsRow base 131 4 (.slice (some ⟨g4,0,none⟩) (L.length+1) c4) (L.length+1) (L.flatMap zAd++zAd b)) (hgr:(wr.alloc ob).grownBy w6 V.ownBlock) (hlie:V.ownBlock=some g4∨g4=wr.heap.size+1) :
 TlSt B base gv gn gl gt A c v p (L++[b]) (.slice (some ⟨g4,0,none⟩) (L.length+1) c4) (w6.setCell ⟨gl,0,none⟩ (.slice (some ⟨g4,0,none⟩) (L.length+1) c4)) ∧
 Fr10 B gn gl V wr (.slice (some ⟨g4,0,none⟩) (L.length+1) c4) (w6.setCell ⟨gl,0,none⟩ (.slice (some ⟨g4,0,none⟩) (L.length+1) c4)):=by
 have ho:=h.ord;have hsz:=h.sz;have hs6:=hgr.size;rw [World.size_alloc] at hs6;have hV:∀q,V.ownBlock=some q->base<=q/\q<wr.heap.size:=λq hq=>h.own.lt q hq
 have stay:∀q,q<wr.heap.size->some q≠V.ownBlock->w6.heap[q]?=wr.heap[q]?:=λq hq hne=>by
  rw [hgr.block q (by rw [World.size_alloc];omega) hne,Below.heap_alloc _ _ _ hq]
 have low:∀q,q<base->some q≠V.ownBlock:=λq hq e=>by have:=(hV q e.symm).1;omega
 have all:∀q,q<wr.heap.size->q≠gl->some q≠V.ownBlock->(w6.setCell ⟨gl,0,none⟩ (.slice (some ⟨g4,0,none⟩) (L.length+1) c4)).heap[q]?=wr.heap[q]?:=λq hq hne hne2=>(zAH w6 gl 0 q _ hne).trans (stay q hq hne2)
 have hlen:(L++[b]).length=L.length+1:=by simp
 have new:∀(b':TB),TkC.R wr wr.heap.size (zAd b') b'.t->OffT base V b'->TkC.R (w6.setCell ⟨gl,0,none⟩ (.slice (some ⟨g4,0,none⟩) (L.length+1) c4)) (w6.setCell ⟨gl,0,none⟩ (.slice (some ⟨g4,0,none⟩) (L.length+1) c4)).heap.size (zAd b') b'.t/\OffT base (.slice (some ⟨g4,0,none⟩) (L.length+1) c4) b':=λb' h1 h2 =>
  ⟨zMF h1 (by simp [World.setCell];omega) λhp ad e hlt=>all _ hlt (by have:=(h2 hp ad e).2;omega) (h2 hp ad e).1,λhp ad e=>⟨λe2=>by
   have e3:ad.block=g4:=by simpa [Value.ownBlock] using e2
   rcases hlie with e4 | e4
   · exact (h2 hp ad e).1 (by rw [e4,e3])
   · have:=zSY h1 hp ad e;omega,(h2 hp ad e).2⟩⟩
 refine ⟨⟨(all gv (by omega) (by omega) (low _ (by omega))).trans h.hv,(all gn (by omega) (by omega) (low _ (by omega))).trans h.hn,one_setCell ((stay gl (by omega) (low _ (by omega))).trans h.hl),(all gt (by omega) (by omega) (low _ (by omega))).trans h.ht,
  h.rd.keep (λ_ hb=>hb) λq o hb=>zCc (all q (by omega) (by omega) (low _ (by omega))),?_,λb' hb=>?_,h.ord,by simp [World.setCell];omega⟩,?_,λk hk _ h2 h3=>all k hk h2 h3,λk hk e=>?_⟩
 · have:=zAf hown gl 0 (by omega) (.slice (some ⟨g4,0,none⟩) (L.length+1) c4)
   rw [hlen,List.flatMap_append]
   simpa [zAd] using this
 · rcases List.mem_append.1 hb with hb | hb
   · exact new b' (h.tk b' hb).1 (h.tk b' hb).2
   · obtain rfl:=List.mem_singleton.1 hb
     exact new _ hR hO
 · exact (((Below.refl B wr).alloc (by omega) ob).grown hgr (by rw [World.size_alloc];omega) (λq hq=>by have:=(hV q hq).1;omega)).setCell (p:=⟨gl,0,none⟩) (by show B<=gl;omega) _
 · have e3:g4=k:=by simpa [Value.ownBlock] using e
   rcases hlie with e4 | e4
   · rw [e4,e3]
   · omega
end
theorem zKw {g:List Nd->List Tk × List Nd}:∀(j:Nat) (l:List Nd),zBM g (j+1) l=((zBM g j l).1++(g (zBM g j l).2).1,(g (zBM g j l).2).2):=by
 intro j
 induction j with
 | zero=>intro l;simp [zBM]
 | succ j ih =>
  intro l;have h1:∀k,zBM g (k+1) l=((g l).1++(zBM g k (g l).2).1,(zBM g k (g l).2).2):=λk=>by simp [zBM]
  rw [h1 (j+1),ih,h1 j]
  simp
theorem zJo (w:World) (k:Nat) (hk:k<256) (x u:ByteArray):TkC.R w w.heap.size (zAd ⟨x,none,0,u,⟨k,x.data.toList,[],u.data.toList⟩⟩) ⟨k,x.data.toList,[],u.data.toList⟩ :=
 ⟨x,none,0,u,rfl,hk,rfl,rfl,Nat.le_refl _,Nat.zero_le _,λ_=>rfl,RdC.nil _ _ _⟩
theorem zH8 (base:Nat) (V:Value) (k:Nat) (x u:ByteArray):OffT base V ⟨x,none,0,u,⟨k,x.data.toList,[],u.data.toList⟩⟩:=λh=>absurd h (by simp)
def zJ5 (B base gv gn gl gt:Nat) (A:Option Addr) (c:Nat) (v:List Nd) (p':Nat) (L:List TB) (V:Value) (T:List Tk) (w:World) (e:Ending) (w':World):Prop :=
 e=.returned (.tuple #[])/\∃(M:List TB) (V':Value),M.map TB.t=T/\TlSt B base gv gn gl gt A c v p' (L++M) V' w'∧Fr10 B gn gl V w V' w'
theorem zKm {d:Nat} {n:Nd} {l:List Nd} {r:List Nd} (h:zAE d (n::l)=some r) (hk:n.kind=2):zAz d (n::l)=([⟨4,[],[],n.text⟩],l)/\r=l:=by
 have hok:=(zBm h).1;have hr:=zFb (d:=d) (l:=l) hok hk;rw [hr] at h;refine ⟨?_,(Option.some.inj h).symm⟩
 cases d with
 | zero=>rw [zAz]
 | succ d=>rw [zAz,if_pos hk]
theorem TlSt.step {B base gv gn gl gt:Nat} {A:Option Addr} {c:Nat} {v:List Nd} {p:Nat} {L:List TB} {V:Value} {w:World} (h:TlSt B base gv gn gl gt A c v p L V w) (cs:Array Value) (T:TypeId) (W:World) (hW:(w.setCell ⟨gn,0,none⟩ (.int .i64 ((p:Int)+1))).alloc (.cells cs T)=W) :
 TlSt B base gv gn gl gt A c v (p+1) L V W/\Fr10 B gn gl V w V W/\W.heap[w.heap.size]?=some (.cells cs T (0,0))/\base<=w.heap.size/\W.heap.size=w.heap.size+1:=by
 obtain ⟨h1,h2⟩:=h.setn (p+1);have e:((p+1:Nat):Int)=(p:Int)+1:=by omega
 rw [e] at h1 h2;have hs:(w.setCell ⟨gn,0,none⟩ (.int .i64 ((p:Int)+1))).heap.size=w.heap.size:=by simp [World.setCell]
 have hb:=stpA (Below.refl (w.setCell ⟨gn,0,none⟩ (.int .i64 ((p:Int)+1))).heap.size (w.setCell ⟨gn,0,none⟩ (.int .i64 ((p:Int)+1)))) (.cells cs T);have hB:B<=w.heap.size:=by have:=h.ord;have:=h.sz;omega
 rw [←hW];refine ⟨h1.below hb,h2.trans (Fr10.of_below hb (by rw [hs];exact hB)),?_,h.sz,by rw [World.size_alloc,hs]⟩;have:=heap_alloc_new (w.setCell ⟨gn,0,none⟩ (.int .i64 ((p:Int)+1))) (.cells cs T)
 rwa [hs] at this
theorem zHX (B base gv gn gl gt:Nat) (A:Option Addr) (c:Nat) (v:List Nd) (hl:v.length<=512) (hsm:∀n∈v,zAW n) (d p:Nat) (L:List TB) (V:Value) (r:List Nd) (w:World) (hp:p<v.length) (hr:zAE d (v.drop p)=some r) (hL:L.length<=100000) (h:TlSt B base gv gn gl gt A c v p L V w) (HKIND:(v[p]'hp).kind=2) :
 Calls prog 136 #[.pointer (some ⟨gv,0,none⟩),.pointer (some ⟨gn,0,none⟩),.pointer (some ⟨gl,0,none⟩),.pointer (some ⟨gt,0,none⟩)] w (zJ5 B base gv gn gl gt A c v (v.length - r.length) L V (zAz d (v.drop p)).1 w):=by
 obtain ⟨i0,hi,hz0,hz1,hz2⟩:=info_parts zJZ;have HI:=hI hi;have HZ0:=hI hz0;have HZ1:=hI hz1;have HZ2:=hI hz2;obtain ⟨Va,Vc,rfl⟩:=zAD h.own;obtain ⟨b0,off,x,y,t,A1,c1,hA,hbB,hin,q0,q1,q2,q3,q4,q5⟩:=zCL h.rd hp;have hs:=hsm _ (List.getElem_mem hp);have hBw:B<=w.heap.size:=by have:=h.ord;have:=h.sz;omega
 have hAt:NdAt (v[p]'hp) x y t A1 c1 w:=hin.keep (λb hb=>Nat.lt_of_lt_of_le hb hBw) λ_ _ _=>rfl
 have hdr:=List.drop_eq_getElem_cons hp;rw [hdr] at hr;obtain ⟨nd,hnd⟩:∃nd,v[p]'hp=nd:=⟨_,rfl⟩;rw [hnd] at hs hAt hr hdr q0 q3 q5 HKIND;obtain ⟨htd,hrl⟩:=zKm hr HKIND;rw [hdr,htd];rw [HKIND,show ((2:Nat):Int)=2 from rfl] at q0;have hrp:v.length - r.length=p+1:=by rw [hrl,List.length_drop];omega
 rw [hrp];obtain ⟨n,hn⟩:∃n,v.length=n:=⟨_,rfl⟩;have HLN:=hI hn;obtain ⟨n1,hn1⟩:∃n1,nd.attrs.length=n1:=⟨_,rfl⟩;obtain ⟨mm,hmm⟩:∃mm,nd.many=mm:=⟨_,rfl⟩;have bp:(0:Int)<=(p:Int)/\(p:Int)<(n:Int):=by omega
 have bn:(n:Int)<=512:=by omega
 have kv:=cell_of_one h.hv;have kn:=cell_of_one h.hn;have fn:=free_of_one h.hn;have HST:=hI h;have HL:=hI hL;have hglt:gn<w.heap.size:=lt_of_block h.hn;have HN1:=hI hn1;have HMM:=hI hmm;rw [hn] at kv;rw [hn1] at q3;rw [hmm] at q5;have hts:t.size<=1000000:=by rw [←zAV,hAt.text];exact hs.text
 have HTS:=hI hts;have HTX:=hI hAt.text;obtain ⟨W0,hW0⟩:∃W0,((w.setCell ⟨gn,0,none⟩ (.int .i64 ((p:Int)+1))).alloc (.cells #[.int .u8 2,.string x,.string y,.slice A1 n1 c1,.string t,.int .i64 mm] 42))=W0:=⟨_,rfl⟩;have HW:=hI (h.step _ _ _ hW0);have k0:=zAA W0 _ 0 _ _ _ HW.out.2.2.1;have k2:=zAA W0 _ 2 _ _ _ HW.out.2.2.1;have k4:=zAA W0 _ 4 _ _ _ HW.out.2.2.1;have k5:=zAA W0 _ 5 _ _ _ HW.out.2.2.1;subst hA;clear hr hs hAt hnd hin htd hrl hrp hdr h hl hsm hts hBw hbB hn1 hmm hi hz0 hz1 hz2 hL hn;clear hp
 go_enter func136,ntmps136
 go_wp2_with fail
 have HBX:=hI HW.out.2.2.1;clear k0 k2 k4 k5 q0 q1 q2 q3 q4 q5 kv kn fn;refine wp_region_noPanic ?_;refine zAN (λW=>W.cell? ⟨gl,0,none⟩=some (.slice Va L.length Vc)/\W.cell? ⟨w.heap.size,4,none⟩=some (.string t)) 7 (by kernel_rfl) ?_;have hS:W0.drew.cell? ⟨gl,0,none⟩=some (.slice Va L.length Vc)/\W0.drew.cell? ⟨w.heap.size,4,none⟩=some (.string t):=⟨zAA W0 _ 0 _ _ _ HW.out.1.hl,zAA W0 _ 4 _ _ _ HBX.out⟩;refine tkZ (i:=0) (v:=.slice Va L.length Vc) rfl (Or.inl ⟨by rfl,?_⟩) hS ?_
 · intro w' hSw;(try dsimp only at hSw);go_simp
 try simp only [Act.put,sTA,sTB,sTC]
 refine tkZ (i:=1) (v:=.pointer (some ⟨w.heap.size,4,none⟩)) rfl (Or.inl ⟨by rfl,?_⟩) hS ?_
 · intro w' hSw;(try dsimp only at hSw);go_simp
 try simp only [Act.put,sTA,sTB,sTC]
 refine tkZ (i:=2) (v:=.string t) rfl (Or.inl ⟨by rfl,?_⟩) hS ?_
 · intro w' hSw;(try dsimp only at hSw);go_simp
 try simp only [Act.put,sTA,sTB,sTC]
 refine zAS (i:=3) (by kernel_rfl) rfl (λK hK=>?_)
 go_simp
 go_at_call 87;(with_reducible refine (zBk t _ HTS.out).mono ?_);rintro e5 w5 ⟨rfl,hb5⟩;have HB5:=hI hb5;clear hb5
 have HS5:Hid (TlSt B base gv gn gl gt (some ⟨b0,off,none⟩) c v (p+1) L (.slice Va L.length Vc) w5):=hI (HW.out.1.below (stp (Below.refl _ _).drew HB5.out));have HX5:Hid (w5.heap[w.heap.size]?=some (.cells #[.int .u8 2,.string x,.string y,.slice A1 n1 c1,.string t,.int .i64 mm] 42 (0,0))):=hI (zAB HBX.out (stp (Below.refl _ _).drew HB5.out));have hS5:w5.cell? ⟨gl,0,none⟩=some (.slice Va L.length Vc)/\w5.cell? ⟨w.heap.size,4,none⟩=some (.string t):=⟨zAA w5 _ 0 _ _ _ HS5.out.hl,zAA w5 _ 4 _ _ _ HX5.out⟩
 go_wp2_with fail
 refine hK.out _ _ (λ_=>hS5) (λ_=>?_);clear hK K hS
 try simp only [Act.put,sTA,sTB,sTC]
 refine tkZ (i:=4) (v:=.agg #[.int .u8 4,.string ⟨#[]⟩,.slice none 0 0,.string t]) rfl (Or.inl ⟨by rfl,?_⟩) hS5 ?_
 · intro w' hSw;(try dsimp only at hSw);go_simp
 try simp only [Act.put,sTA,sTB,sTC]
 refine zAS (i:=5) (by kernel_rfl) rfl (λK hK=>?_)
 go_simp
 have HS6:=hI (HS5.out.below (stpA (Below.refl w5.heap.size w5) (.cells #[.int .u8 4,.string ⟨#[]⟩,.slice none 0 0,.string t] 131)));have HX6:=hI (zAB HX5.out (stpA (Below.refl w5.heap.size w5) (.cells #[.int .u8 4,.string ⟨#[]⟩,.slice none 0 0,.string t] 131)));have hS6:(w5.alloc (.cells #[.int .u8 4,.string ⟨#[]⟩,.slice none 0 0,.string t] 131)).cell? ⟨gl,0,none⟩=some (.slice Va L.length Vc)/\(w5.alloc (.cells #[.int .u8 4,.string ⟨#[]⟩,.slice none 0 0,.string t] 131)).cell? ⟨w.heap.size,4,none⟩=some (.string t):=⟨zAA (w5.alloc (.cells #[.int .u8 4,.string ⟨#[]⟩,.slice none 0 0,.string t] 131)) _ 0 _ _ _ HS6.out.hl,zAA (w5.alloc (.cells #[.int .u8 4,.string ⟨#[]⟩,.slice none 0 0,.string t] 131)) _ 4 _ _ _ HX6.out⟩;refine hK.out _ _ (λ_=>hS6) (λ_=>?_);clear hK K hS5
 try simp only [Act.put,sTA,sTB,sTC]
 refine zAS (i:=6) (by kernel_rfl) rfl (λK hK=>?_);have HSZ:Hid (base<=w5.heap.size):=hI HS5.out.sz;refine step_append_lies _ rfl (.tmp 34) (.tmp 39) 83 rfl base 131 i0 (.agg #[.int .u8 0,.string ⟨#[]⟩,.slice none 0 0,.string ⟨#[]⟩]) 4 64 underlying83 HI.out HZ0.out HZ1.out HZ2.out rfl (by decide) _ L.length _ rfl (zAF HS5.out.own (stpA (Below.refl _ _) _) (Nat.le_refl _)) ⟨w5.heap.size,0,none⟩ 1 1 [.int .u8 4,.string ⟨#[]⟩,.slice none 0 0,.string t] rfl rfl (zAp w5 [.int .u8 4,.string ⟨#[]⟩,.slice none 0 0,.string t] 131 _ rfl) (zHw _ _ _ _ _ _) (by decide) (by have:=HL.out;unfold maxLen;omega) (by have:=HL.out;omega) (by have:=HSZ.out;rw [World.size_alloc];omega) (w5.heap.size+1) (by rw [World.size_alloc]) ?_;intro g8 c8 w8 hown8 hgr8 hor hlt8;have hpush:=HS5.out.push (b:=⟨⟨#[]⟩,none,0,t,⟨4,(⟨#[]⟩:ByteArray).data.toList,[],t.data.toList⟩⟩) (zJo _ 4 (by decide) ⟨#[]⟩ t) (zH8 _ _ 4 ⟨#[]⟩ t) hown8 hgr8 hor;have HP8:=hI hpush.1;have HF8:=hI hpush.2
 have st8:∀(q:Nat) (o:Obj),w5.heap[q]?=some o->some q≠(Value.slice Va L.length Vc).ownBlock->w8.heap[q]?=some o:=λq o ho hne=>by
  have h1:=zAB ho (stpA (Below.refl w5.heap.size w5) (.cells #[.int .u8 4,.string ⟨#[]⟩,.slice none 0 0,.string t] 131));exact (hgr8.block _ (Array.getElem?_eq_some_iff.1 h1).1 hne).trans h1
 have hgl:=st8 gl _ HS5.out.hl (λe=>by have:=(HS5.out.own.lt _ e.symm).1;have:=HS5.out.ord;omega);have hbx:=st8 w.heap.size _ HX5.out (λe=>by have:=(HST.out.own.lt _ e.symm).2;omega);have k8:w8.cell? ⟨gl,0,none⟩=some (.slice Va L.length Vc)/\w8.cell? ⟨w.heap.size,4,none⟩=some (.string t):=⟨zAA w8 _ 0 _ _ _ hgl,zAA w8 _ 4 _ _ _ hbx⟩;have f8:w8.frozen? ⟨gl,0,none⟩=false:=zAZ w8 _ 0 _ _ hgl;have k81:=k8.1;clear hown8 hgr8 hor hgl st8 hpush;refine hK.out _ _ (λ_=>k8) (λ_=>?_);clear hK K
 try simp only [Act.put,sTA,sTB,sTC]
 refine zAS (i:=7) (by kernel_rfl) rfl (λK hK=>?_)
 go_simp
 refine hK.out _ _ (λh=>absurd rfl h) (λ_=>?_);clear hK K
 try simp only [Act.put,sTA,sTB,sTC]
 refine zCU (by kernel_rfl) ?_ _;refine NoPanic.normal ?_
 go_wp2_with fail
 (try simp only [Exit.inBlock,Exit.then,Exit.noGoto])
 go_end0
 refine ⟨rfl,[⟨⟨#[]⟩,none,0,t,⟨4,(⟨#[]⟩:ByteArray).data.toList,[],t.data.toList⟩⟩],_,?_,HP8.out,(HW.out.2.1.trans (Fr10.of_below (stp (Below.refl _ _).drew HB5.out) (by have:=HST.out.ord;have:=HW.out.2.2.2;omega))).trans HF8.out⟩;show [_]=[_];rw [←HTX.out]
theorem zPR {w0 w5:World} {k:Nat} (hk:k<256) {y:ByteArray} {A5:Option Addr} {c5:Nat} {l:List At} {V:Value} {base:Nat} (h:w5.ownsRow w0.heap.size 187 2 (.slice A5 l.length c5) l.length ((l.map pbA).flatMap zBV)) (hV:∀q,V.ownBlock=some q->q<w0.heap.size) (hb:base<=w0.heap.size) :
 TkC.R w5 w5.heap.size (zAd ⟨y,A5,c5,⟨#[]⟩,⟨k,y.data.toList,zAk l,[]⟩⟩) ⟨k,y.data.toList,zAk l,[]⟩/\OffT base V ⟨y,A5,c5,⟨#[]⟩,⟨k,y.data.toList,zAk l,[]⟩⟩:=by
 obtain ⟨h1,h2,h3,h4,h5⟩:=zEn h;rw [zPy] at h1;have hl:(zAk l).length=l.length:=by unfold zAk;rw [List.length_map]
 refine ⟨⟨y,A5,c5,⟨#[]⟩,rfl,hk,rfl,rfl,by rw [hl];exact h3,h4,h5,h1⟩,λ_ ad e=>?_⟩;have e:A5=some ad:=e;subst e;have h6:=(h.lt ad.block rfl).1;exact ⟨λe2=>by have:=hV _ e2.symm;omega,by omega⟩
theorem zKc {d:Nat} {n:Nd} {l:List Nd} {r:List Nd} (h:zAE d (n::l)=some r) (hk:n.kind=1) (hm:n.many=0):zAz d (n::l)=([⟨3,n.name,zAk n.attrs,[]⟩],l)/\r=l:=by
 obtain ⟨_,_,b,hb⟩:=zBm h;rw [hm] at hb
 have hb:(some (false,l):Option (Bool × List Nd))=some (b,r):=by
  rw [←hb]
  rfl
 injection hb with hb;injection hb with _ hb;refine ⟨?_,hb.symm⟩
 cases d with
 | zero=>rw [zAE,if_neg (by omega)] at h;cases h
 | succ d=>rw [zAz,if_neg (by omega),if_pos hm]
theorem zMi (B base gv gn gl gt:Nat) (A:Option Addr) (c:Nat) (v:List Nd) (hl:v.length<=512) (hsm:∀n∈v,zAW n) (d p:Nat) (L:List TB) (V:Value) (r:List Nd) (w:World) (hp:p<v.length) (hr:zAE d (v.drop p)=some r) (hL:L.length<=100000) (h:TlSt B base gv gn gl gt A c v p L V w) (HKIND:(v[p]'hp).kind=1) (HM0:(v[p]'hp).many=0) :
 Calls prog 136 #[.pointer (some ⟨gv,0,none⟩),.pointer (some ⟨gn,0,none⟩),.pointer (some ⟨gl,0,none⟩),.pointer (some ⟨gt,0,none⟩)] w (zJ5 B base gv gn gl gt A c v (v.length - r.length) L V (zAz d (v.drop p)).1 w):=by
 obtain ⟨i0,hi,hz0,hz1,hz2⟩:=info_parts zJZ;have HI:=hI hi;have HZ0:=hI hz0;have HZ1:=hI hz1;have HZ2:=hI hz2;obtain ⟨Va,Vc,rfl⟩:=zAD h.own;obtain ⟨b0,off,x,y,t,A1,c1,hA,hbB,hin,q0,q1,q2,q3,q4,q5⟩:=zCL h.rd hp;have hs:=hsm _ (List.getElem_mem hp);have hBw:B<=w.heap.size:=by have:=h.ord;have:=h.sz;omega
 have hAt:NdAt (v[p]'hp) x y t A1 c1 w:=hin.keep (λb hb=>Nat.lt_of_lt_of_le hb hBw) λ_ _ _=>rfl
 have hdr:=List.drop_eq_getElem_cons hp;rw [hdr] at hr;obtain ⟨nd,hnd⟩:∃nd,v[p]'hp=nd:=⟨_,rfl⟩;rw [hnd] at hs hAt hr hdr q0 q3 q5 HKIND HM0;obtain ⟨htd,hrl⟩:=zKc hr HKIND HM0;rw [hdr,htd];rw [HKIND,show ((1:Nat):Int)=1 from rfl] at q0;have hrp:v.length - r.length=p+1:=by rw [hrl,List.length_drop];omega
 rw [hrp];have hin2:=hin;rw [hnd] at hin2;have htag:∀W,Below B w W->Calls prog 137 #[.int .u8 3,NdV nd x y t A1 c1] W (zFr 3 y nd.attrs W):=λW hW=>zRz 3 nd x y t A1 c1 W (hin2.keep (λb hb=>Nat.lt_of_lt_of_le (Nat.lt_of_lt_of_le hb hBw) hW.size) λb o hb=>hW.cell (p:=⟨b,o,none⟩) hb) hs
 unfold NdV zFr at htag;rw [HKIND,HM0,show ((1:Nat):Int)=1 from rfl] at htag;obtain ⟨n,hn⟩:∃n,v.length=n:=⟨_,rfl⟩;have HLN:=hI hn;obtain ⟨n1,hn1⟩:∃n1,nd.attrs.length=n1:=⟨_,rfl⟩;obtain ⟨mm,hmm⟩:∃mm,nd.many=mm:=⟨_,rfl⟩;have bp:(0:Int)<=(p:Int)/\(p:Int)<(n:Int):=by omega
 have bn:(n:Int)<=512:=by omega
 have kv:=cell_of_one h.hv;have kn:=cell_of_one h.hn;have fn:=free_of_one h.hn;have HST:=hI h;have HL:=hI hL;have hglt:gn<w.heap.size:=lt_of_block h.hn;have HN1:=hI hn1;have HMM:=hI hmm;rw [hn] at kv;rw [hn1] at q3;rw [hmm] at q5;rw [HM0] at hmm;subst hmm;rw [hn1] at htag;have HTG:=hI htag;have HNM:=hI hAt.name;have HPL:Hid ((zAk nd.attrs).length=n1):=hI (by unfold zAk;rw [List.length_map,hn1]);obtain ⟨W0,hW0⟩:∃W0,((w.setCell ⟨gn,0,none⟩ (.int .i64 ((p:Int)+1))).alloc (.cells #[.int .u8 1,.string x,.string y,.slice A1 n1 c1,.string t,.int .i64 0] 42))=W0:=⟨_,rfl⟩;have HW:=hI (h.step _ _ _ hW0);have k0:=zAA W0 _ 0 _ _ _ HW.out.2.2.1;have k2:=zAA W0 _ 2 _ _ _ HW.out.2.2.1;have k4:=zAA W0 _ 4 _ _ _ HW.out.2.2.1;have k5:=zAA W0 _ 5 _ _ _ HW.out.2.2.1;subst hA;clear htag hin2 hr hs hAt hnd hin htd hrl hrp hdr h hl hsm hBw hbB hn1 hi hz0 hz1 hz2 hL hn;clear hp
 go_enter func136,ntmps136
 go_wp2_with fail
 have HBX:=hI HW.out.2.2.1;clear k0 k2 k4 k5 q0 q1 q2 q3 q4 q5 kv kn fn;refine wp_region_noPanic ?_;refine zAN (λW=>W.cell? ⟨gl,0,none⟩=some (.slice Va L.length Vc)/\W.cell? ⟨w.heap.size,0,none⟩=some (.int .u8 1)/\W.cell? ⟨w.heap.size,1,none⟩=some (.string x)/\W.cell? ⟨w.heap.size,2,none⟩=some (.string y)/\W.cell? ⟨w.heap.size,3,none⟩=some (.slice A1 n1 c1)/\W.cell? ⟨w.heap.size,4,none⟩=some (.string t)/\W.cell? ⟨w.heap.size,5,none⟩=some (.int .i64 0)) 5 (by kernel_rfl) ?_;have hS:W0.drew.cell? ⟨gl,0,none⟩=some (.slice Va L.length Vc)/\W0.drew.cell? ⟨w.heap.size,0,none⟩=some (.int .u8 1)/\W0.drew.cell? ⟨w.heap.size,1,none⟩=some (.string x)/\W0.drew.cell? ⟨w.heap.size,2,none⟩=some (.string y)/\W0.drew.cell? ⟨w.heap.size,3,none⟩=some (.slice A1 n1 c1)/\W0.drew.cell? ⟨w.heap.size,4,none⟩=some (.string t)/\W0.drew.cell? ⟨w.heap.size,5,none⟩=some (.int .i64 0):=⟨zAA W0 _ 0 _ _ _ HW.out.1.hl,zAA W0 _ 0 _ _ _ HBX.out,zAA W0 _ 1 _ _ _ HBX.out,zAA W0 _ 2 _ _ _ HBX.out,zAA W0 _ 3 _ _ _ HBX.out,zAA W0 _ 4 _ _ _ HBX.out,zAA W0 _ 5 _ _ _ HBX.out⟩;refine tkZ (i:=0) (v:=.slice Va L.length Vc) rfl (Or.inl ⟨by rfl,?_⟩) hS ?_
 · intro w' hSw;(try dsimp only at hSw);go_simp
 try simp only [Act.put,sTA,sTB,sTC]
 refine tkZ (i:=1) (v:=.agg #[.int .u8 1,.string x,.string y,.slice A1 n1 c1,.string t,.int .i64 0]) rfl (Or.inl ⟨by rfl,?_⟩) hS ?_
 · intro w' hSw;(try dsimp only at hSw);go_simp
 try simp only [Act.put,sTA,sTB,sTC]
 refine zAS (i:=2) (by kernel_rfl) rfl (λK hK=>?_)
 go_simp
 go_at_call 137;(with_reducible refine (HTG.out _ HW.out.2.1.bel.drew).mono ?_);rintro e5 w5 ⟨hb5,A5,c5,rfl,hown5⟩;have HB5:Hid (Below W0.drew.heap.size W0.drew w5):=hI hb5;have HTK:=hI (zPR (k:=3) (by decide) (y:=y) (V:=.slice Va L.length Vc) (base:=base) (by rw [HN1.out];exact hown5) (λq hq=>by have:=(HW.out.1.own.lt q hq).2;exact this) HW.out.1.sz);have HCS:Hid (zAd ⟨y,A5,c5,⟨#[]⟩,⟨3,y.data.toList,zAk nd.attrs,[]⟩⟩=[.int .u8 3,.string y,.slice A5 n1 c5,.string ⟨#[]⟩]):=hI (by unfold zAd;rw [HPL.out];rfl);clear hb5 hown5
 have HS5:Hid (TlSt B base gv gn gl gt (some ⟨b0,off,none⟩) c v (p+1) L (.slice Va L.length Vc) w5):=hI (HW.out.1.below (stp (Below.refl _ _).drew HB5.out));have HX5:Hid (w5.heap[w.heap.size]?=some (.cells #[.int .u8 1,.string x,.string y,.slice A1 n1 c1,.string t,.int .i64 0] 42 (0,0))):=hI (zAB HBX.out (stp (Below.refl _ _).drew HB5.out));have hS5:w5.cell? ⟨gl,0,none⟩=some (.slice Va L.length Vc)/\w5.cell? ⟨w.heap.size,0,none⟩=some (.int .u8 1)/\w5.cell? ⟨w.heap.size,1,none⟩=some (.string x)/\w5.cell? ⟨w.heap.size,2,none⟩=some (.string y)/\w5.cell? ⟨w.heap.size,3,none⟩=some (.slice A1 n1 c1)/\w5.cell? ⟨w.heap.size,4,none⟩=some (.string t)/\w5.cell? ⟨w.heap.size,5,none⟩=some (.int .i64 0):=⟨zAA w5 _ 0 _ _ _ HS5.out.hl,zAA w5 _ 0 _ _ _ HX5.out,zAA w5 _ 1 _ _ _ HX5.out,zAA w5 _ 2 _ _ _ HX5.out,zAA w5 _ 3 _ _ _ HX5.out,zAA w5 _ 4 _ _ _ HX5.out,zAA w5 _ 5 _ _ _ HX5.out⟩
 go_wp2_with fail
 refine hK.out _ _ (λ_=>hS5) (λ_=>?_);clear hK K hS
 try simp only [Act.put,sTA,sTB,sTC]
 refine zAS (i:=3) (by kernel_rfl) rfl (λK hK=>?_)
 go_simp
 have HS6:=hI (HS5.out.below (stpA (Below.refl w5.heap.size w5) (.cells #[.int .u8 3,.string y,.slice A5 n1 c5,.string ⟨#[]⟩] 131)));have HX6:=hI (zAB HX5.out (stpA (Below.refl w5.heap.size w5) (.cells #[.int .u8 3,.string y,.slice A5 n1 c5,.string ⟨#[]⟩] 131)));have hS6:(w5.alloc (.cells #[.int .u8 3,.string y,.slice A5 n1 c5,.string ⟨#[]⟩] 131)).cell? ⟨gl,0,none⟩=some (.slice Va L.length Vc)/\(w5.alloc (.cells #[.int .u8 3,.string y,.slice A5 n1 c5,.string ⟨#[]⟩] 131)).cell? ⟨w.heap.size,0,none⟩=some (.int .u8 1)/\(w5.alloc (.cells #[.int .u8 3,.string y,.slice A5 n1 c5,.string ⟨#[]⟩] 131)).cell? ⟨w.heap.size,1,none⟩=some (.string x)/\(w5.alloc (.cells #[.int .u8 3,.string y,.slice A5 n1 c5,.string ⟨#[]⟩] 131)).cell? ⟨w.heap.size,2,none⟩=some (.string y)/\(w5.alloc (.cells #[.int .u8 3,.string y,.slice A5 n1 c5,.string ⟨#[]⟩] 131)).cell? ⟨w.heap.size,3,none⟩=some (.slice A1 n1 c1)/\(w5.alloc (.cells #[.int .u8 3,.string y,.slice A5 n1 c5,.string ⟨#[]⟩] 131)).cell? ⟨w.heap.size,4,none⟩=some (.string t)/\(w5.alloc (.cells #[.int .u8 3,.string y,.slice A5 n1 c5,.string ⟨#[]⟩] 131)).cell? ⟨w.heap.size,5,none⟩=some (.int .i64 0):=⟨zAA (w5.alloc (.cells #[.int .u8 3,.string y,.slice A5 n1 c5,.string ⟨#[]⟩] 131)) _ 0 _ _ _ HS6.out.hl,zAA (w5.alloc (.cells #[.int .u8 3,.string y,.slice A5 n1 c5,.string ⟨#[]⟩] 131)) _ 0 _ _ _ HX6.out,zAA (w5.alloc (.cells #[.int .u8 3,.string y,.slice A5 n1 c5,.string ⟨#[]⟩] 131)) _ 1 _ _ _ HX6.out,zAA (w5.alloc (.cells #[.int .u8 3,.string y,.slice A5 n1 c5,.string ⟨#[]⟩] 131)) _ 2 _ _ _ HX6.out,zAA (w5.alloc (.cells #[.int .u8 3,.string y,.slice A5 n1 c5,.string ⟨#[]⟩] 131)) _ 3 _ _ _ HX6.out,zAA (w5.alloc (.cells #[.int .u8 3,.string y,.slice A5 n1 c5,.string ⟨#[]⟩] 131)) _ 4 _ _ _ HX6.out,zAA (w5.alloc (.cells #[.int .u8 3,.string y,.slice A5 n1 c5,.string ⟨#[]⟩] 131)) _ 5 _ _ _ HX6.out⟩;refine hK.out _ _ (λ_=>hS6) (λ_=>?_);clear hK K hS5
 try simp only [Act.put,sTA,sTB,sTC]
 refine zAS (i:=4) (by kernel_rfl) rfl (λK hK=>?_);have HSZ:Hid (base<=w5.heap.size):=hI HS5.out.sz;refine step_append_lies _ rfl (.tmp 45) (.tmp 48) 83 rfl base 131 i0 (.agg #[.int .u8 0,.string ⟨#[]⟩,.slice none 0 0,.string ⟨#[]⟩]) 4 64 underlying83 HI.out HZ0.out HZ1.out HZ2.out rfl (by decide) _ L.length _ rfl (zAF HS5.out.own (stpA (Below.refl _ _) _) (Nat.le_refl _)) ⟨w5.heap.size,0,none⟩ 1 1 [.int .u8 3,.string y,.slice A5 n1 c5,.string ⟨#[]⟩] rfl rfl (zAp w5 [.int .u8 3,.string y,.slice A5 n1 c5,.string ⟨#[]⟩] 131 _ rfl) (zHw _ _ _ _ _ _) (by decide) (by have:=HL.out;unfold maxLen;omega) (by have:=HL.out;omega) (by have:=HSZ.out;rw [World.size_alloc];omega) (w5.heap.size+1) (by rw [World.size_alloc]) ?_;intro g8 c8 w8 hown8 hgr8 hor hlt8;have hpush:=HS5.out.push (b:=⟨y,A5,c5,⟨#[]⟩,⟨3,y.data.toList,zAk nd.attrs,[]⟩⟩) HTK.out.1 HTK.out.2 (by rw [HCS.out];exact hown8) hgr8 hor;have HP8:=hI hpush.1;have HF8:=hI hpush.2
 have st8:∀(q:Nat) (o:Obj),w5.heap[q]?=some o->some q≠(Value.slice Va L.length Vc).ownBlock->w8.heap[q]?=some o:=λq o ho hne=>by
  have h1:=zAB ho (stpA (Below.refl w5.heap.size w5) (.cells #[.int .u8 3,.string y,.slice A5 n1 c5,.string ⟨#[]⟩] 131));exact (hgr8.block _ (Array.getElem?_eq_some_iff.1 h1).1 hne).trans h1
 have hgl:=st8 gl _ HS5.out.hl (λe=>by have:=(HS5.out.own.lt _ e.symm).1;have:=HS5.out.ord;omega);have hbx:=st8 w.heap.size _ HX5.out (λe=>by have:=(HST.out.own.lt _ e.symm).2;omega);have k8:w8.cell? ⟨gl,0,none⟩=some (.slice Va L.length Vc)/\w8.cell? ⟨w.heap.size,0,none⟩=some (.int .u8 1)/\w8.cell? ⟨w.heap.size,1,none⟩=some (.string x)/\w8.cell? ⟨w.heap.size,2,none⟩=some (.string y)/\w8.cell? ⟨w.heap.size,3,none⟩=some (.slice A1 n1 c1)/\w8.cell? ⟨w.heap.size,4,none⟩=some (.string t)/\w8.cell? ⟨w.heap.size,5,none⟩=some (.int .i64 0):=⟨zAA w8 _ 0 _ _ _ hgl,zAA w8 _ 0 _ _ _ hbx,zAA w8 _ 1 _ _ _ hbx,zAA w8 _ 2 _ _ _ hbx,zAA w8 _ 3 _ _ _ hbx,zAA w8 _ 4 _ _ _ hbx,zAA w8 _ 5 _ _ _ hbx⟩;have f8:w8.frozen? ⟨gl,0,none⟩=false:=zAZ w8 _ 0 _ _ hgl;have k81:=k8.1;clear hown8 hgr8 hor hgl st8 hpush;refine hK.out _ _ (λ_=>k8) (λ_=>?_);clear hK K
 try simp only [Act.put,sTA,sTB,sTC]
 refine zAS (i:=5) (by kernel_rfl) rfl (λK hK=>?_)
 go_simp
 refine hK.out _ _ (λh=>absurd rfl h) (λ_=>?_);clear hK K
 try simp only [Act.put,sTA,sTB,sTC]
 refine zCU (by kernel_rfl) ?_ _;refine NoPanic.normal ?_
 go_wp2_with fail
 (try simp only [Exit.inBlock,Exit.then,Exit.noGoto])
 go_end0
 refine ⟨rfl,[⟨y,A5,c5,⟨#[]⟩,⟨3,y.data.toList,zAk nd.attrs,[]⟩⟩],_,?_,HP8.out,(HW.out.2.1.trans (Fr10.of_below (stp (Below.refl _ _).drew HB5.out) (by have:=HST.out.ord;have:=HW.out.2.2.2;omega))).trans HF8.out⟩;show [_]=[_];rw [←HNM.out]
def zL2 (B base gv gn gl gt:Nat) (A:Option Addr) (c:Nat) (v:List Nd) (d:Nat):Prop:=∀(p:Nat) (L:List TB) (V:Value) (r:List Nd) (w:World),p<v.length->zAE d (v.drop p)=some r->L.length+cnt (v.drop p)<=3000->TlSt B base gv gn gl gt A c v p L V w →
 Calls prog 136 #[.pointer (some ⟨gv,0,none⟩),.pointer (some ⟨gn,0,none⟩),.pointer (some ⟨gl,0,none⟩),.pointer (some ⟨gt,0,none⟩)] w (zJ5 B base gv gn gl gt A c v (v.length - r.length) L V (zAz d (v.drop p)).1 w)
theorem zKZ {d:Nat} {n:Nd} {l:List Nd} (hk:n.kind=1) (hm:n.many≠0):zAz (d+1) (n::l)=(⟨1,n.name,zAk n.attrs,[]⟩::((zBM (zAz d) n.many.toNat l).1++[⟨2,n.name,[],[]⟩]),(zBM (zAz d) n.many.toNat l).2):=by
 rw [zAz,if_neg (by omega),if_neg hm]
theorem zOD {n:Nd} {l:List Nd} (hm:0<n.many):cnt (n::l)=cnt l+2:=by
 unfold cnt;rw [List.length_cons,List.countP_cons,if_pos (by simpa using hm)]
 omega
theorem zLr (B base gv gn gl gt:Nat) (A:Option Addr) (c:Nat) (v:List Nd) (hl:v.length<=512) (hsm:∀n∈v,zAW n) (d p:Nat) (L:List TB) (V:Value) (r:List Nd) (w:World) (hp:p<v.length) (hr:zAE (d+1) (v.drop p)=some r) (hL:L.length<=100000) (h:TlSt B base gv gn gl gt A c v p L V w) (hcn:L.length+cnt (v.drop p)<=3000) (HKIND:(v[p]'hp).kind=1) (HM0:0<(v[p]'hp).many) (ih:zL2 B base gv gn gl gt A c v d) :
 Calls prog 136 #[.pointer (some ⟨gv,0,none⟩),.pointer (some ⟨gn,0,none⟩),.pointer (some ⟨gl,0,none⟩),.pointer (some ⟨gt,0,none⟩)] w (zJ5 B base gv gn gl gt A c v (v.length - r.length) L V (zAz (d+1) (v.drop p)).1 w):=by
 obtain ⟨i0,hi,hz0,hz1,hz2⟩:=info_parts zJZ;have HI:=hI hi;have HZ0:=hI hz0;have HZ1:=hI hz1;have HZ2:=hI hz2;obtain ⟨Va,Vc,rfl⟩:=zAD h.own;obtain ⟨b0,off,x,y,t,A1,c1,hA,hbB,hin,q0,q1,q2,q3,q4,q5⟩:=zCL h.rd hp;have hs:=hsm _ (List.getElem_mem hp);have hBw:B<=w.heap.size:=by have:=h.ord;have:=h.sz;omega
 have hAt:NdAt (v[p]'hp) x y t A1 c1 w:=hin.keep (λb hb=>Nat.lt_of_lt_of_le hb hBw) λ_ _ _=>rfl
 have hdr:=List.drop_eq_getElem_cons hp;rw [hdr] at hr;obtain ⟨nd,hnd⟩:∃nd,v[p]'hp=nd:=⟨_,rfl⟩;rw [hnd] at hs hAt hr hdr q0 q3 q5 HKIND HM0;have htd:=zKZ (d:=d) (l:=v.drop (p+1)) HKIND (by omega:nd.many≠0);have hct:=zOD (l:=v.drop (p+1)) HM0;obtain ⟨hok,_,bb,hk⟩:=zBm hr;rw [Nat.add_sub_cancel] at hk;rw [hdr] at hcn;rw [hct] at hcn;rw [hdr,htd];rw [HKIND,show ((1:Nat):Int)=1 from rfl] at q0;have hin2:=hin;rw [hnd] at hin2;have htag:∀W,Below B w W->Calls prog 137 #[.int .u8 1,NdV nd x y t A1 c1] W (zFr 1 y nd.attrs W):=λW hW=>zRz 1 nd x y t A1 c1 W (hin2.keep (λb hb=>Nat.lt_of_lt_of_le (Nat.lt_of_lt_of_le hb hBw) hW.size) λb o hb=>hW.cell (p:=⟨b,o,none⟩) hb) hs
 unfold NdV zFr at htag;obtain ⟨m,hmn⟩:∃m:Nat,nd.many=(m:Int):=⟨nd.many.toNat,by omega⟩;rw [HKIND,show ((1:Nat):Int)=1 from rfl] at htag;rw [hmn,Int.toNat_natCast] at hk;have hkl:=zDU hk;rw [List.length_drop] at hkl;obtain ⟨n,hn⟩:∃n,v.length=n:=⟨_,rfl⟩;have HLN:=hI hn;obtain ⟨n1,hn1⟩:∃n1,nd.attrs.length=n1:=⟨_,rfl⟩;obtain ⟨mm,hmm⟩:∃mm,nd.many=mm:=⟨_,rfl⟩;have bp:(0:Int)<=(p:Int)/\(p:Int)<(n:Int):=by omega
 have bn:(n:Int)<=512:=by omega
 have kv:=cell_of_one h.hv;have kn:=cell_of_one h.hn;have fn:=free_of_one h.hn;have HST:=hI h;have HL:=hI hL;have hglt:gn<w.heap.size:=lt_of_block h.hn;have HN1:=hI hn1;have HMM:=hI hmm;rw [hn] at kv;rw [hn1] at q3;rw [hmm] at q5;rw [hmn] at hmm;subst hmm;rw [hmn,Int.toNat_natCast];rw [hn1,hmn] at htag;have f0:((m:Int)==0)=false:=by simp;omega
 have f1:¬(m:Int)=0:=by omega
 have HTG:=hI htag;have HNM:=hI hAt.name;have hys:y.size<=1000000:=by rw [←zAV,hAt.name];exact hs.name
 have HYS:=hI hys;have HK:=hI hk;have HIH:=hI ih;have HCN:=hI hcn;have HPLT:=hI hp;have bm:(0:Int)<(m:Int)/\(m:Int)<=512:=by omega
 have HRL:Hid (r.length+m+p<n):=hI (by omega);obtain ⟨q9,hq9⟩:∃q9,v.length - r.length=q9:=⟨_,rfl⟩;have HQ9:=hI hq9;rw [hq9];have HPL:Hid ((zAk nd.attrs).length=n1):=hI (by unfold zAk;rw [List.length_map,hn1]);obtain ⟨W0,hW0⟩:∃W0,((w.setCell ⟨gn,0,none⟩ (.int .i64 ((p:Int)+1))).alloc (.cells #[.int .u8 1,.string x,.string y,.slice A1 n1 c1,.string t,.int .i64 (m:Int)] 42))=W0:=⟨_,rfl⟩;have HW:=hI (h.step _ _ _ hW0);have k0:=zAA W0 _ 0 _ _ _ HW.out.2.2.1;have k2:=zAA W0 _ 2 _ _ _ HW.out.2.2.1;have k4:=zAA W0 _ 4 _ _ _ HW.out.2.2.1;have k5:=zAA W0 _ 5 _ _ _ HW.out.2.2.1;subst hA;clear htag hin2 hr hs hAt hnd hin htd hdr h hl hsm hBw hbB hn1 hi hz0 hz1 hz2 hL hn hct hok hk hkl hcn hmn hys ih hq9 HM0;clear hp
 go_enter func136,ntmps136
 go_wp2_with fail
 have HBX:=hI HW.out.2.2.1;clear k0 k2 k4 k5 q0 q1 q2 q3 q4 q5 kv kn fn;refine wp_region_noPanic ?_;refine zAN (λW=>W.cell? ⟨gl,0,none⟩=some (.slice Va L.length Vc)/\W.cell? ⟨w.heap.size,0,none⟩=some (.int .u8 1)/\W.cell? ⟨w.heap.size,1,none⟩=some (.string x)/\W.cell? ⟨w.heap.size,2,none⟩=some (.string y)/\W.cell? ⟨w.heap.size,3,none⟩=some (.slice A1 n1 c1)/\W.cell? ⟨w.heap.size,4,none⟩=some (.string t)/\W.cell? ⟨w.heap.size,5,none⟩=some (.int .i64 (m:Int))) 5 (by kernel_rfl) ?_;have hS:W0.drew.cell? ⟨gl,0,none⟩=some (.slice Va L.length Vc)/\W0.drew.cell? ⟨w.heap.size,0,none⟩=some (.int .u8 1)/\W0.drew.cell? ⟨w.heap.size,1,none⟩=some (.string x)/\W0.drew.cell? ⟨w.heap.size,2,none⟩=some (.string y)/\W0.drew.cell? ⟨w.heap.size,3,none⟩=some (.slice A1 n1 c1)/\W0.drew.cell? ⟨w.heap.size,4,none⟩=some (.string t)/\W0.drew.cell? ⟨w.heap.size,5,none⟩=some (.int .i64 (m:Int)):=⟨zAA W0 _ 0 _ _ _ HW.out.1.hl,zAA W0 _ 0 _ _ _ HBX.out,zAA W0 _ 1 _ _ _ HBX.out,zAA W0 _ 2 _ _ _ HBX.out,zAA W0 _ 3 _ _ _ HBX.out,zAA W0 _ 4 _ _ _ HBX.out,zAA W0 _ 5 _ _ _ HBX.out⟩;refine tkZ (i:=0) (v:=.slice Va L.length Vc) rfl (Or.inl ⟨by rfl,?_⟩) hS ?_
 · intro w' hSw;(try dsimp only at hSw);go_simp
 try simp only [Act.put,sTA,sTB,sTC]
 refine tkZ (i:=1) (v:=.agg #[.int .u8 1,.string x,.string y,.slice A1 n1 c1,.string t,.int .i64 (m:Int)]) rfl (Or.inl ⟨by rfl,?_⟩) hS ?_
 · intro w' hSw;(try dsimp only at hSw);go_simp
 try simp only [Act.put,sTA,sTB,sTC]
 refine zAS (i:=2) (by kernel_rfl) rfl (λK hK=>?_)
 go_simp
 go_at_call 137;(with_reducible refine (HTG.out _ HW.out.2.1.bel.drew).mono ?_);rintro e5 w5 ⟨hb5,A5,c5,rfl,hown5⟩;have HB5:Hid (Below W0.drew.heap.size W0.drew w5):=hI hb5;have HTK:=hI (zPR (k:=1) (by decide) (y:=y) (V:=.slice Va L.length Vc) (base:=base) (by rw [HN1.out];exact hown5) (λq hq=>by have:=(HW.out.1.own.lt q hq).2;exact this) HW.out.1.sz);have HCS:Hid (zAd ⟨y,A5,c5,⟨#[]⟩,⟨1,y.data.toList,zAk nd.attrs,[]⟩⟩=[.int .u8 1,.string y,.slice A5 n1 c5,.string ⟨#[]⟩]):=hI (by unfold zAd;rw [HPL.out];rfl);clear hb5 hown5
 have HS5:Hid (TlSt B base gv gn gl gt (some ⟨b0,off,none⟩) c v (p+1) L (.slice Va L.length Vc) w5):=hI (HW.out.1.below (stp (Below.refl _ _).drew HB5.out));have HX5:Hid (w5.heap[w.heap.size]?=some (.cells #[.int .u8 1,.string x,.string y,.slice A1 n1 c1,.string t,.int .i64 (m:Int)] 42 (0,0))):=hI (zAB HBX.out (stp (Below.refl _ _).drew HB5.out));have hS5:w5.cell? ⟨gl,0,none⟩=some (.slice Va L.length Vc)/\w5.cell? ⟨w.heap.size,0,none⟩=some (.int .u8 1)/\w5.cell? ⟨w.heap.size,1,none⟩=some (.string x)/\w5.cell? ⟨w.heap.size,2,none⟩=some (.string y)/\w5.cell? ⟨w.heap.size,3,none⟩=some (.slice A1 n1 c1)/\w5.cell? ⟨w.heap.size,4,none⟩=some (.string t)/\w5.cell? ⟨w.heap.size,5,none⟩=some (.int .i64 (m:Int)):=⟨zAA w5 _ 0 _ _ _ HS5.out.hl,zAA w5 _ 0 _ _ _ HX5.out,zAA w5 _ 1 _ _ _ HX5.out,zAA w5 _ 2 _ _ _ HX5.out,zAA w5 _ 3 _ _ _ HX5.out,zAA w5 _ 4 _ _ _ HX5.out,zAA w5 _ 5 _ _ _ HX5.out⟩
 go_wp2_with fail
 refine hK.out _ _ (λ_=>hS5) (λ_=>?_);clear hK K hS
 try simp only [Act.put,sTA,sTB,sTC]
 refine zAS (i:=3) (by kernel_rfl) rfl (λK hK=>?_)
 go_simp
 have HS6:=hI (HS5.out.below (stpA (Below.refl w5.heap.size w5) (.cells #[.int .u8 1,.string y,.slice A5 n1 c5,.string ⟨#[]⟩] 131)));have HX6:=hI (zAB HX5.out (stpA (Below.refl w5.heap.size w5) (.cells #[.int .u8 1,.string y,.slice A5 n1 c5,.string ⟨#[]⟩] 131)));have hS6:(w5.alloc (.cells #[.int .u8 1,.string y,.slice A5 n1 c5,.string ⟨#[]⟩] 131)).cell? ⟨gl,0,none⟩=some (.slice Va L.length Vc)/\(w5.alloc (.cells #[.int .u8 1,.string y,.slice A5 n1 c5,.string ⟨#[]⟩] 131)).cell? ⟨w.heap.size,0,none⟩=some (.int .u8 1)/\(w5.alloc (.cells #[.int .u8 1,.string y,.slice A5 n1 c5,.string ⟨#[]⟩] 131)).cell? ⟨w.heap.size,1,none⟩=some (.string x)/\(w5.alloc (.cells #[.int .u8 1,.string y,.slice A5 n1 c5,.string ⟨#[]⟩] 131)).cell? ⟨w.heap.size,2,none⟩=some (.string y)/\(w5.alloc (.cells #[.int .u8 1,.string y,.slice A5 n1 c5,.string ⟨#[]⟩] 131)).cell? ⟨w.heap.size,3,none⟩=some (.slice A1 n1 c1)/\(w5.alloc (.cells #[.int .u8 1,.string y,.slice A5 n1 c5,.string ⟨#[]⟩] 131)).cell? ⟨w.heap.size,4,none⟩=some (.string t)/\(w5.alloc (.cells #[.int .u8 1,.string y,.slice A5 n1 c5,.string ⟨#[]⟩] 131)).cell? ⟨w.heap.size,5,none⟩=some (.int .i64 (m:Int)):=⟨zAA (w5.alloc (.cells #[.int .u8 1,.string y,.slice A5 n1 c5,.string ⟨#[]⟩] 131)) _ 0 _ _ _ HS6.out.hl,zAA (w5.alloc (.cells #[.int .u8 1,.string y,.slice A5 n1 c5,.string ⟨#[]⟩] 131)) _ 0 _ _ _ HX6.out,zAA (w5.alloc (.cells #[.int .u8 1,.string y,.slice A5 n1 c5,.string ⟨#[]⟩] 131)) _ 1 _ _ _ HX6.out,zAA (w5.alloc (.cells #[.int .u8 1,.string y,.slice A5 n1 c5,.string ⟨#[]⟩] 131)) _ 2 _ _ _ HX6.out,zAA (w5.alloc (.cells #[.int .u8 1,.string y,.slice A5 n1 c5,.string ⟨#[]⟩] 131)) _ 3 _ _ _ HX6.out,zAA (w5.alloc (.cells #[.int .u8 1,.string y,.slice A5 n1 c5,.string ⟨#[]⟩] 131)) _ 4 _ _ _ HX6.out,zAA (w5.alloc (.cells #[.int .u8 1,.string y,.slice A5 n1 c5,.string ⟨#[]⟩] 131)) _ 5 _ _ _ HX6.out⟩;refine hK.out _ _ (λ_=>hS6) (λ_=>?_);clear hK K hS5
 try simp only [Act.put,sTA,sTB,sTC]
 refine zAS (i:=4) (by kernel_rfl) rfl (λK hK=>?_);have HSZ:Hid (base<=w5.heap.size):=hI HS5.out.sz;refine step_append_lies _ rfl (.tmp 11) (.tmp 14) 83 rfl base 131 i0 (.agg #[.int .u8 0,.string ⟨#[]⟩,.slice none 0 0,.string ⟨#[]⟩]) 4 64 underlying83 HI.out HZ0.out HZ1.out HZ2.out rfl (by decide) _ L.length _ rfl (zAF HS5.out.own (stpA (Below.refl _ _) _) (Nat.le_refl _)) ⟨w5.heap.size,0,none⟩ 1 1 [.int .u8 1,.string y,.slice A5 n1 c5,.string ⟨#[]⟩] rfl rfl (zAp w5 [.int .u8 1,.string y,.slice A5 n1 c5,.string ⟨#[]⟩] 131 _ rfl) (zHw _ _ _ _ _ _) (by decide) (by have:=HL.out;unfold maxLen;omega) (by have:=HL.out;omega) (by have:=HSZ.out;rw [World.size_alloc];omega) (w5.heap.size+1) (by rw [World.size_alloc]) ?_;intro g8 c8 w8 hown8 hgr8 hor hlt8;have hpush:=HS5.out.push (b:=⟨y,A5,c5,⟨#[]⟩,⟨1,y.data.toList,zAk nd.attrs,[]⟩⟩) HTK.out.1 HTK.out.2 (by rw [HCS.out];exact hown8) hgr8 hor;have HP8:=hI hpush.1;have HF8:=hI hpush.2
 have st8:∀(q:Nat) (o:Obj),w5.heap[q]?=some o->some q≠(Value.slice Va L.length Vc).ownBlock->w8.heap[q]?=some o:=λq o ho hne=>by
  have h1:=zAB ho (stpA (Below.refl w5.heap.size w5) (.cells #[.int .u8 1,.string y,.slice A5 n1 c5,.string ⟨#[]⟩] 131));exact (hgr8.block _ (Array.getElem?_eq_some_iff.1 h1).1 hne).trans h1
 have hgl:=st8 gl _ HS5.out.hl (λe=>by have:=(HS5.out.own.lt _ e.symm).1;have:=HS5.out.ord;omega);have hbx:=st8 w.heap.size _ HX5.out (λe=>by have:=(HST.out.own.lt _ e.symm).2;omega);have k8:w8.cell? ⟨gl,0,none⟩=some (.slice Va L.length Vc)/\w8.cell? ⟨w.heap.size,0,none⟩=some (.int .u8 1)/\w8.cell? ⟨w.heap.size,1,none⟩=some (.string x)/\w8.cell? ⟨w.heap.size,2,none⟩=some (.string y)/\w8.cell? ⟨w.heap.size,3,none⟩=some (.slice A1 n1 c1)/\w8.cell? ⟨w.heap.size,4,none⟩=some (.string t)/\w8.cell? ⟨w.heap.size,5,none⟩=some (.int .i64 (m:Int)):=⟨zAA w8 _ 0 _ _ _ hgl,zAA w8 _ 0 _ _ _ hbx,zAA w8 _ 1 _ _ _ hbx,zAA w8 _ 2 _ _ _ hbx,zAA w8 _ 3 _ _ _ hbx,zAA w8 _ 4 _ _ _ hbx,zAA w8 _ 5 _ _ _ hbx⟩;have f8:w8.frozen? ⟨gl,0,none⟩=false:=zAZ w8 _ 0 _ _ hgl;have k81:=k8.1;have HG8:Hid (g8≠w.heap.size):=hI (λe=>by rcases hor with h | h;(have:=(HST.out.own.lt _ h).2;omega);(have:=HB5.out.size;have h2:=HW.out.2.2.2.2;have h3:W0.heap.size<=w5.heap.size:=this;omega));have HBX8:Hid ((w8.setCell ⟨gl,0,none⟩ (.slice (some ⟨g8,0,none⟩) (L.length+1) c8)).heap[w.heap.size]?=some (.cells #[.int .u8 1,.string x,.string y,.slice A1 n1 c1,.string t,.int .i64 (m:Int)] 42 (0,0))):=hI ((zAH w8 gl 0 w.heap.size _ (by have:=HST.out.ord;have:=HST.out.sz;omega)).trans hbx);clear hown8 hgr8 hor hgl st8 hpush;refine hK.out _ _ (λ_=>k8) (λ_=>?_);clear hK K
 try simp only [Act.put,sTA,sTB,sTC]
 refine zAS (i:=5) (by kernel_rfl) rfl (λK hK=>?_)
 go_simp
 refine hK.out _ _ (λh=>absurd rfl h) (λ_=>?_);clear hK K
 try simp only [Act.put,sTA,sTB,sTC]
 refine zCU (by kernel_rfl) ?_ _;refine NoPanic.normal ?_;have HFR0:Hid (Fr10 B gn gl (.slice Va L.length Vc) w (.slice (some ⟨g8,0,none⟩) (L.length+1) c8) (w8.setCell ⟨gl,0,none⟩ (.slice (some ⟨g8,0,none⟩) (L.length+1) c8))):=hI ((HW.out.2.1.trans (Fr10.of_below (stp (Below.refl _ _).drew HB5.out) (by have:=HST.out.ord;have:=HW.out.2.2.2;omega))).trans HF8.out);obtain ⟨W8,hW8⟩:∃W8,w8.setCell ⟨gl,0,none⟩ (.slice (some ⟨g8,0,none⟩) (L.length+1) c8)=W8:=⟨_,rfl⟩;rw [hW8] at HP8 HF8 HFR0 HBX8;rw [hW8];have kb5:=zAA W8 _ 5 _ _ _ HBX8.out;have HBS:Hid (w.heap.size<W8.heap.size):=hI (zAY HBX8.out);clear k8 f8 k81 hbx hW8 hS6
 go_wp2_with fail
 go_loopg [18] m (λgg i wr=>∃(j:Nat) (b':Bool) (p':Nat) (M:List TB) (V':Value),j+gg=m/\i=.int .i64 j/\zAG (zAE d) j false (v.drop (p+1))=some (b',v.drop p')/\p'≤n/\TlSt B base gv gn gl gt (some ⟨b0,off,none⟩) c v p' (L++[⟨y,A5,c5,⟨#[]⟩,⟨1,y.data.toList,zAk nd.attrs,[]⟩⟩]++M) V' wr/\M.map TB.t=(zBM (zAz d) j (v.drop (p+1))).1/\Fr10 B gn gl (.slice (some ⟨g8,0,none⟩) (L.length+1) c8) W8 V' wr)
 case atStart=>exact ⟨0,false,p+1,[],_,by omega,rfl,by rw [zAG],by have:=HPLT.out;have:=HLN.out;omega,by rw [List.append_nil];exact HP8.out,by simp [zBM],Fr10.refl _ _ _ _ _⟩
 case round =>
  obtain ⟨j,b',p',M,V',hjg,rfl,hkd,hpn,hst,hM,hfr⟩:=hrel;have HS:=hI hst;have HFR:=hI hfr;have HMM2:=hI hM;have hrest:=zFk (λl r h=>zC5 d l r h) j false _ b' _ hkd;have hcnt:=zG7 (λl r h=>zEe d l r h) j false _ b' _ hkd;have hMl:M.length=(zBM (zAz d) j (v.drop (p+1))).1.length:=by rw [←hM,List.length_map]
  by_cases hlt:j<m
  · have hlt2:(j:Int)<(m:Int):=by omega
    obtain ⟨hp2,r2,h1,h2,h3⟩:=zE0 HK.out hkd hlt
    have hcall:=HIH.out p' _ V' r2 wr hp2 h1 (by
     have:=HCN.out;rw [List.length_append,List.length_append,List.length_singleton,hMl]
     omega) hst
    have HC:=hI hcall;have kt:=cell_of_one hst.ht;unfold zLP at kt;obtain ⟨p3,hp3⟩:∃p3,v.length - r2.length=p3:=⟨_,rfl⟩;rw [hp3] at HC h2;have H2:=hI h2;have HP3:Hid (p3<=n):=hI (by have:=HLN.out;omega);have HSN:Hid ((zBM (zAz d) (j+1) (v.drop (p+1))).1=(zBM (zAz d) j (v.drop (p+1))).1++(zAz d (v.drop p')).1):=hI (by rw [zKw,hrest]);clear hcall hkd h1 h2 h3 hp3 hst hfr hM hrest hcnt hMl;clear kb5
    go_wp2_with (first
     | (go_at_call 136;(with_reducible refine (HC.out).mono ?_);rintro e2 w2 ⟨rfl,M2,V2,hM2,hst2,hfr2⟩;have HM2':=hI hM2;have HS2:=hI hst2;have HF2:=hI hfr2;clear hM2 hst2 hfr2)
     | fail)
    go_roundg (gk - 1)
    case measure=>omega
    case rel=>exact ⟨j+1,_,p3,M++M2,V2,by omega,by go_num,H2.out,HP3.out,by rw [←List.append_assoc];exact HS2.out,by rw [List.map_append,HMM2.out,HM2'.out,HSN.out],HFR.out.trans HF2.out⟩
  · obtain rfl:j=m:=by omega
    have hjj:¬((j:Int)<(j:Int)):=by omega
    obtain ⟨L2,hL2⟩:∃L2,L++[⟨y,A5,c5,⟨#[]⟩,⟨1,y.data.toList,zAk nd.attrs,[]⟩⟩]++M=L2:=⟨_,rfl⟩;rw [hL2] at HS hst;obtain ⟨Va2,Vc2,rfl⟩:=zAD hst.own
    have HPQ:Hid (p'=q9):=hI (by
     have h9:=HK.out;rw [hkd] at h9;injection h9 with h9;injection h9 with _ h9;have h8:=congrArg List.length h9;rw [List.length_drop,HLN.out] at h8;have:=HRL.out;have:=HQ9.out;have:=HLN.out
     omega)
    have HL2b:Hid (L2.length<=100000):=hI (by
     rw [←hL2,List.length_append,List.length_append,List.length_singleton,hMl];have:=HCN.out
     omega)
    have HBW:Hid (wr.heap[w.heap.size]?=some (.cells #[.int .u8 1,.string x,.string y,.slice A1 n1 c1,.string t,.int .i64 (j:Int)] 42 (0,0))):=hI ((hfr.blk w.heap.size HBS.out (by have:=HST.out.ord;have:=HST.out.sz;omega) (by have:=HST.out.ord;have:=HST.out.sz;omega) (λe=>HG8.out (by simpa [Value.ownBlock] using e.symm))).trans HBX8.out)
    have HVN:Hid (∀e,(Value.slice Va2 L2.length Vc2).ownBlock=some e->e≠w.heap.size):=hI λe he h=>HG8.out (by
     have:=hfr.lie w.heap.size HBS.out (by rw [←h];exact he)
     simpa [Value.ownBlock] using this)
    have HL2E:=hI hL2;clear hkd hst hfr hM hrest hcnt hMl hL2;clear kb5
    go_wp2_with fail
    refine wp_region_noPanic ?_;refine zAN (λW=>W.cell? ⟨gl,0,none⟩=some (.slice Va2 L2.length Vc2)/\W.cell? ⟨w.heap.size,2,none⟩=some (.string y)) 7 (by kernel_rfl) ?_;have hS:wr.drew.cell? ⟨gl,0,none⟩=some (.slice Va2 L2.length Vc2)/\wr.drew.cell? ⟨w.heap.size,2,none⟩=some (.string y):=⟨zAA wr _ 0 _ _ _ HS.out.hl,zAA wr _ 2 _ _ _ HBW.out⟩;refine tkZ (i:=0) (v:=.slice Va2 L2.length Vc2) rfl (Or.inl ⟨by rfl,?_⟩) hS ?_
    · intro w' hSw;(try dsimp only at hSw);go_simp
    try simp only [Act.put,sTA,sTB,sTC]
    refine tkZ (i:=1) (v:=.pointer (some ⟨w.heap.size,2,none⟩)) rfl (Or.inl ⟨by rfl,?_⟩) hS ?_
    · intro w' hSw;(try dsimp only at hSw);go_simp
    try simp only [Act.put,sTA,sTB,sTC]
    refine tkZ (i:=2) (v:=.string y) rfl (Or.inl ⟨by rfl,?_⟩) hS ?_
    · intro w' hSw;(try dsimp only at hSw);go_simp
    try simp only [Act.put,sTA,sTB,sTC]
    refine zAS (i:=3) (by kernel_rfl) rfl (λK hK=>?_)
    go_simp
    go_at_call 87;(with_reducible refine (zBk y _ HYS.out).mono ?_);rintro e15 w15 ⟨rfl,hb15⟩;have HB15:Hid (Below wr.drew.heap.size wr.drew w15):=hI hb15;clear hb15
    have HS15:Hid (TlSt B base gv gn gl gt (some ⟨b0,off,none⟩) c v p' L2 (.slice Va2 L2.length Vc2) w15):=hI (HS.out.below (stp (Below.refl _ _).drew HB15.out));have HX15:Hid (w15.heap[w.heap.size]?=some (.cells #[.int .u8 1,.string x,.string y,.slice A1 n1 c1,.string t,.int .i64 (j:Int)] 42 (0,0))):=hI (zAB HBW.out (stp (Below.refl _ _).drew HB15.out));have hS15:w15.cell? ⟨gl,0,none⟩=some (.slice Va2 L2.length Vc2)/\w15.cell? ⟨w.heap.size,2,none⟩=some (.string y):=⟨zAA w15 _ 0 _ _ _ HS15.out.hl,zAA w15 _ 2 _ _ _ HX15.out⟩
    go_wp2_with fail
    refine hK.out _ _ (λ_=>hS15) (λ_=>?_);clear hK K hS
    try simp only [Act.put,sTA,sTB,sTC]
    refine tkZ (i:=4) (v:=.agg #[.int .u8 2,.string y,.slice none 0 0,.string ⟨#[]⟩]) rfl (Or.inl ⟨by rfl,?_⟩) hS15 ?_
    · intro w' hSw;(try dsimp only at hSw);go_simp
    try simp only [Act.put,sTA,sTB,sTC]
    refine zAS (i:=5) (by kernel_rfl) rfl (λK hK=>?_)
    go_simp
    have HS16:=hI (HS15.out.below (stpA (Below.refl w15.heap.size w15) (.cells #[.int .u8 2,.string y,.slice none 0 0,.string ⟨#[]⟩] 131)));have HX16:=hI (zAB HX15.out (stpA (Below.refl w15.heap.size w15) (.cells #[.int .u8 2,.string y,.slice none 0 0,.string ⟨#[]⟩] 131)));have hS16:(w15.alloc (.cells #[.int .u8 2,.string y,.slice none 0 0,.string ⟨#[]⟩] 131)).cell? ⟨gl,0,none⟩=some (.slice Va2 L2.length Vc2)/\(w15.alloc (.cells #[.int .u8 2,.string y,.slice none 0 0,.string ⟨#[]⟩] 131)).cell? ⟨w.heap.size,2,none⟩=some (.string y):=⟨zAA (w15.alloc (.cells #[.int .u8 2,.string y,.slice none 0 0,.string ⟨#[]⟩] 131)) _ 0 _ _ _ HS16.out.hl,zAA (w15.alloc (.cells #[.int .u8 2,.string y,.slice none 0 0,.string ⟨#[]⟩] 131)) _ 2 _ _ _ HX16.out⟩;refine hK.out _ _ (λ_=>hS16) (λ_=>?_);clear hK K hS15
    try simp only [Act.put,sTA,sTB,sTC]
    refine zAS (i:=6) (by kernel_rfl) rfl (λK hK=>?_);have HSZ18:Hid (base<=w15.heap.size):=hI HS15.out.sz;refine step_append_lies _ rfl (.tmp 23) (.tmp 28) 83 rfl base 131 i0 (.agg #[.int .u8 0,.string ⟨#[]⟩,.slice none 0 0,.string ⟨#[]⟩]) 4 64 underlying83 HI.out HZ0.out HZ1.out HZ2.out rfl (by decide) _ L2.length _ rfl (zAF HS15.out.own (stpA (Below.refl _ _) _) (Nat.le_refl _)) ⟨w15.heap.size,0,none⟩ 1 1 [.int .u8 2,.string y,.slice none 0 0,.string ⟨#[]⟩] rfl rfl (zAp w15 [.int .u8 2,.string y,.slice none 0 0,.string ⟨#[]⟩] 131 _ rfl) (zHw _ _ _ _ _ _) (by decide) (by have:=HL2b.out;unfold maxLen;omega) (by have:=HL2b.out;omega) (by have:=HSZ18.out;rw [World.size_alloc];omega) (w15.heap.size+1) (by rw [World.size_alloc]) ?_;intro g18 c18 w18 hown18 hgr18 hor18 hlt18;have hpush:=HS15.out.push (b:=⟨y,none,0,⟨#[]⟩,⟨2,y.data.toList,[],(⟨#[]⟩:ByteArray).data.toList⟩⟩) (zJo _ 2 (by decide) y ⟨#[]⟩) (zH8 _ _ 2 y ⟨#[]⟩) hown18 hgr18 hor18;have HP18:=hI hpush.1;have HF18:=hI hpush.2
    have st18:∀(q:Nat) (o:Obj),w15.heap[q]?=some o->some q≠(Value.slice Va2 L2.length Vc2).ownBlock->w18.heap[q]?=some o:=λq o ho hne=>by
     have h1:=zAB ho (stpA (Below.refl w15.heap.size w15) (.cells #[.int .u8 2,.string y,.slice none 0 0,.string ⟨#[]⟩] 131));exact (hgr18.block _ (Array.getElem?_eq_some_iff.1 h1).1 hne).trans h1
    have hgl:=st18 gl _ HS15.out.hl (λe=>by have:=(HS15.out.own.lt _ e.symm).1;have:=HS15.out.ord;omega);have hbx:=st18 w.heap.size _ HX15.out (λe=>HVN.out _ e.symm rfl);have k18:w18.cell? ⟨gl,0,none⟩=some (.slice Va2 L2.length Vc2)/\w18.cell? ⟨w.heap.size,2,none⟩=some (.string y):=⟨zAA w18 _ 0 _ _ _ hgl,zAA w18 _ 2 _ _ _ hbx⟩;have f18:w18.frozen? ⟨gl,0,none⟩=false:=zAZ w18 _ 0 _ _ hgl;have k181:=k18.1;clear hown18 hgr18 hor18 hgl st18 hpush;refine hK.out _ _ (λ_=>k18) (λ_=>?_);clear hK K
    try simp only [Act.put,sTA,sTB,sTC]
    refine zAS (i:=7) (by kernel_rfl) rfl (λK hK=>?_)
    go_simp
    refine hK.out _ _ (λh=>absurd rfl h) (λ_=>?_);clear hK K
    try simp only [Act.put,sTA,sTB,sTC]
    refine zCU (by kernel_rfl) ?_ _;refine NoPanic.normal ?_
    go_wp2_with fail
    (try simp only [Exit.inBlock,Exit.then,Exit.noGoto])
    go_end0
    refine ⟨rfl,[⟨y,A5,c5,⟨#[]⟩,⟨1,y.data.toList,zAk nd.attrs,[]⟩⟩]++M++[⟨y,none,0,⟨#[]⟩,⟨2,y.data.toList,[],(⟨#[]⟩:ByteArray).data.toList⟩⟩],_,?_,?_,(HFR0.out.trans (HFR.out.trans (Fr10.of_below (stp (Below.refl _ _).drew HB15.out) (by have:=HS.out.ord;have:=HS.out.sz;omega)))).trans HF18.out⟩
    · rw [List.map_append,List.map_append,HMM2.out]
      show (_::_)++[_]=_::(_++[_]);rw [HNM.out]
      rfl
    · rw [←HPQ.out,←List.append_assoc,←List.append_assoc,HL2E.out]
      exact HP18.out
theorem zN8 (B base gv gn gl gt:Nat) (A:Option Addr) (c:Nat) (v:List Nd) (hl:v.length<=512) (hsm:∀n∈v,zAW n):∀d,zL2 B base gv gn gl gt A c v d:=by
 intro d
 induction d with
 | zero =>
  intro p L V r w hp hr hcn h
  have hk:(v[p]'hp).kind=2:=by
   have h':=hr;rw [List.drop_eq_getElem_cons hp,zAE] at h'
   by_cases hn:ndOk (v[p]'hp)=true/\(v[p]'hp).kind=2
   · exact hn.2
   · rw [if_neg hn] at h';cases h'
  exact zHX B base gv gn gl gt A c v hl hsm 0 p L V r w hp hr (by omega) h hk
 | succ d ih =>
  intro p L V r w hp hr hcn h
  have hok:ndOk (v[p]'hp)=true/\0<=(v[p]'hp).many:=by
   have h':=hr;rw [List.drop_eq_getElem_cons hp] at h';exact ⟨(zBm h').1,(zBm h').2.1⟩
  by_cases hk:(v[p]'hp).kind=1
  · by_cases hm:(v[p]'hp).many=0
    · exact zMi B base gv gn gl gt A c v hl hsm (d+1) p L V r w hp hr (by omega) h hk hm
    · exact zLr B base gv gn gl gt A c v hl hsm d p L V r w hp hr (by omega) h hcn hk (by omega) ih
  · exact zHX B base gv gn gl gt A c v hl hsm (d+1) p L V r w hp hr (by omega) h ((zBX hok.1).resolve_left hk)
def zG6 (v:List Nd) (w:World) (e:Ending) (w':World):Prop:=∃(ts:List Tk) (q:Int) (A:Option Addr) (c:Nat),zA1 v=(ts,q)/\e=.returned (.tuple #[.slice A ts.length c,.int .i64 q])/\RdC TkC w' w'.heap.size A ts/\ts.length<=c/\c<=maxLen/\(A=none->c=0)/\Below w.heap.size w w'
theorem zG6.bad {v:List Nd} {w w':World} {q:Int} (h:zA1 v=([],q)) (hb:Below w.heap.size w w'):zG6 v w (.returned (.tuple #[.slice none 0 0,.int .i64 q])) w':=⟨[],q,none,0,h,rfl,RdC.nil _ _ _,Nat.le_refl _,Nat.zero_le _,λ_=>rfl,hb⟩
theorem zEw {v:List Nd} (h:mayV v=false∨rawV v=false):zA1 v=([],8):=by
 unfold zA1;rw [if_neg];rintro ⟨h1,h2⟩;rcases h with h | h
 · rw [h] at h1;cases h1
 · rw [h] at h2;cases h2
theorem zQV {w w2:World} {A:Option Addr} {c:Nat} {v:List Nd} (hr:RdB NdS w A v) (hb:Below w.heap.size w w2) (hv:w2.heap[w.heap.size]?=some (.cells #[.slice A v.length c] 22 (0,0))) :
 TlSt w.heap.size (w2.heap.size+3) w.heap.size (w2.heap.size+1) w2.heap.size (w2.heap.size+1+1) A c v 0 [] (.slice none 0 0) (((w2.alloc (.cells #[.slice none 0 0] 83)).alloc (.cells #[.int .i64 0] 3)).alloc (.cells #[zLP w.heap.size (w2.heap.size+1) w2.heap.size (w2.heap.size+1+1)] 1)):=by
 have h0:=heap_alloc_new w2 (.cells #[.slice none 0 0] 83);have h1:=heap_alloc_new (w2.alloc (.cells #[.slice none 0 0] 83)) (.cells #[.int .i64 0] 3);rw [World.size_alloc] at h1;have h2:=heap_alloc_new ((w2.alloc (.cells #[.slice none 0 0] 83)).alloc (.cells #[.int .i64 0] 3)) (.cells #[zLP w.heap.size (w2.heap.size+1) w2.heap.size (w2.heap.size+1+1)] 1);rw [World.size_alloc,World.size_alloc] at h2;have hb3:Below w2.heap.size w2 (((w2.alloc (.cells #[.slice none 0 0] 83)).alloc (.cells #[.int .i64 0] 3)).alloc (.cells #[zLP w.heap.size (w2.heap.size+1) w2.heap.size (w2.heap.size+1+1)] 1)):=stpA (stpA (stpA (Below.refl _ _) _) _) _;have hlt:=zAY hv;refine ⟨zAB hv hb3,zAB h1 (stpA (Below.refl _ _) _),zAB (zAB h0 (stpA (Below.refl _ _) _)) (stpA (Below.refl _ _) _),h2,?_,World.ownsRow_nil _ _ _ _,(λb hb=>by cases hb),by omega,by simp⟩;exact hr.keep (λ_ hb=>hb) λb o hlt2=>(stp hb hb3).cell (p:=⟨b,o,none⟩) hlt2
theorem zOV (A:Option Addr) (n c:Nat) (v:List Nd) (w:World) (hr:RdB NdS w A v) (hn:v.length=n) (hmax:n<=9223372036854775807) (hsm:n<=512->∀m∈v,zAW m) :
 Calls prog 101 #[.slice A n c] w (zG6 v w):=by
 have hmf:∀(fn:Fn) (first cap:Array Value) (w:World),(Instr.makeFunc fn first cap).run prog w=.ok (.func fn first cap) w:=λ_ _ _ _=>rfl
 have HB0:Hid (Below w.heap.size w (w.alloc (.cells #[.slice A n c] 22))):=hI (stpA (Below.refl _ _) _);have HBX:Hid (∀w1,Below (w.alloc (.cells #[.slice A n c] 22)).heap.size (w.alloc (.cells #[.slice A n c] 22)) w1->w1.heap[w.heap.size]?=some (.cells #[.slice A n c] 22 (0,0))):=hI λw1 hb=>zAB (heap_alloc_new w _) hb
 cases hm:mayV v with
 | false =>
  have HC:Hid (∀W,Below w.heap.size w W->Calls prog 36 #[.slice A n c] W λe w'=>e=.returned (.int .i64 8)/\Below W.heap.size W w'):=hI λW hW=>zGm A n c v W (hr.on hW) hn hmax hsm 8 (zG3 hm)
  have HT:=hI (zEw (v:=v) (.inl hm));clear hr hn hmax hsm hm
  go_enter func101,ntmps101
  go_wp2_with (first
   | (go_at_call 36;(with_reducible refine (HC.out _ HB0.out).mono ?_);rintro e1 w1 ⟨rfl,hb1⟩;have HB1:=hI hb1;clear hb1)
   | fail)
  go_ret2
  exact zG6.bad HT.out (stp HB0.out HB1.out)
 | true =>
  have h5:=(zAs.1 hm).1;have hrest:=(zAs.1 hm).2.2;have hs:=hsm (by omega);have HC:Hid (∀W,Below w.heap.size w W->Calls prog 36 #[.slice A n c] W λe w'=>e=.returned (.int .i64 0)/\Below W.heap.size W w'):=hI λW hW=>zGm A n c v W (hr.on hW) hn hmax hsm 0 (zFu hm)
  have hraw:∀q,rawV v=q->∀W,Below w.heap.size w W->Calls prog 135 #[.slice A n c] W λe w'=>e=.returned (.bool q)/\Below W.heap.size W w':=λq hq W hW=>zSB A n c v W (hr.on hW) hn (by omega) hs q hq
  cases hq:rawV v with
  | false =>
   have HR:=hI (hraw false hq);have HT:=hI (zEw (v:=v) (.inr hq));clear hr hn hmax hsm hm h5 hrest hs hraw hq
   go_enter func101,ntmps101
   go_wp2_with (first
    | (go_at_call 36;(with_reducible refine (HC.out _ HB0.out).mono ?_);rintro e1 w1 ⟨rfl,hb1⟩;have HB1:=hI hb1;have kv1:=cell_of_one (HBX.out w1 hb1);clear hb1)
    | (go_at_call 135;(with_reducible refine (HR.out _ (stp HB0.out HB1.out)).mono ?_);rintro e2 w2 ⟨rfl,hb2⟩;have HB2:=hI hb2;clear hb2)
    | fail)
   go_ret2
   exact zG6.bad HT.out (stp (stp HB0.out HB1.out) HB2.out)
  | true =>
   have HR:=hI (hraw true hq);obtain ⟨ts,hts⟩:∃ts,(zAz 12 v).1=ts:=⟨_,rfl⟩;have hlen:=zEe 12 v [] hrest
   have hTR:zA1 v=if 512<ts.length then ([],4) else (ts,0):=by
    unfold zA1;rw [if_pos ⟨hm,hq⟩,hts]
   have hcv:cnt v<=1024:=by
    unfold cnt;have:=List.countP_le_length (p:=λn:Nd=>decide (0<n.many)) (l:=v)
    omega
   have hp0:0<v.length:=by
    obtain ⟨_,⟨m,l,rfl,_⟩,_⟩:=zAs.1 hm
    simp
   have htell:∀w2,Below w.heap.size w w2->w2.heap[w.heap.size]?=some (.cells #[.slice A n c] 22 (0,0))->Calls prog 136 #[.pointer (some ⟨w.heap.size,0,none⟩),.pointer (some ⟨w2.heap.size+1,0,none⟩),.pointer (some ⟨w2.heap.size,0,none⟩),.pointer (some ⟨w2.heap.size+1+1,0,none⟩)] (((w2.alloc (.cells #[.slice none 0 0] 83)).alloc (.cells #[.int .i64 0] 3)).alloc (.cells #[.func (.func 136) #[] #[.pointer (some ⟨w.heap.size,0,none⟩),.pointer (some ⟨w2.heap.size+1,0,none⟩),.pointer (some ⟨w2.heap.size,0,none⟩),.pointer (some ⟨w2.heap.size+1+1,0,none⟩)]] 1))
    (λe w'=>e=.returned (.tuple #[])/\∃(Ao:Option Addr) (co:Nat),w'.heap[w2.heap.size]?=some (.cells #[.slice Ao ts.length co] 83 (0,0))/\RdC TkC w' w'.heap.size Ao ts/\ts.length<=co/\co<=maxLen/\(Ao=none->co=0)/\Below w.heap.size w w'):=λw2 hb hv=>by
    have hst:=zQV (c:=c) hr hb (by rw [hn];exact hv);refine (zN8 _ _ _ _ _ _ A c v h5 hs 12 0 [] (.slice none 0 0) [] _ hp0 hrest (by simp;omega) hst).mono ?_;rintro e w' ⟨rfl,M,V',hM,hs2,hf⟩;rw [List.nil_append] at hs2;rw [List.drop_zero,hts] at hM;obtain ⟨Ao,co,rfl⟩:=zAD hs2.own;obtain ⟨r1,r2,r3,r4,r5⟩:=RdC.of_own (C:=TkC) zAd TB.t (λ_=>rfl) (by decide) M (λb hm=>(hs2.tk b hm).1) hs2.own;have hMl:M.length=ts.length:=by rw [←hM,List.length_map]
    have hgl:=hs2.hl;rw [hM] at r1;rw [hMl] at r3 hgl;exact ⟨rfl,Ao,co,hgl,r1,r3,r4,r5,(hb.trans ((stpA (stpA (stpA (Below.refl w2.heap.size w2) _) _) _).mono hb.size)).trans hf.bel⟩
   have HTL:=hI htell;have hb:∀k:Nat,(k:Int)=k:=λ_=>rfl
   have btl:(ts.length:Int)<=3000:=by
    have:cnt ([]:List Nd)=0:=rfl;rw [hts] at hlen
    omega
   by_cases hlong:512<ts.length
   · rw [if_pos hlong] at hTR
     have HT:=hI hTR;have f9:decide ((512:Int)<(ts.length:Int))=true:=decide_eq_true (by omega);clear hr hn hmax hsm hm h5 hrest hs hraw hq hlen hTR hcv hp0 htell hb hts
     go_enter func101,ntmps101
     go_wp2_with (first
      | (go_at_call 36;(with_reducible refine (HC.out _ HB0.out).mono ?_);rintro e1 w1 ⟨rfl,hb1⟩;have HB1:=hI hb1;have kv1:=cell_of_one (HBX.out w1 hb1);clear hb1)
      | (go_at_call 135;(with_reducible refine (HR.out _ (stp HB0.out HB1.out)).mono ?_);rintro e2 w2 ⟨rfl,hb2⟩;have HB2:=hI hb2;clear hb2)
      | (go_at_call 136;(with_reducible refine (HTL.out w2 (stp (stp HB0.out HB1.out) HB2.out) (HBX.out w2 (stp HB1.out HB2.out))).mono ?_);rintro e3 w3 ⟨rfl,Ao,co,hgl,hrd,hle,hcm,hnl,hbw⟩;have kl:=cell_of_one hgl;have HBW:=hI hbw;clear hgl hrd hbw)
      | fail)
     go_ret2
     exact zG6.bad HT.out HBW.out
   · rw [if_neg hlong] at hTR
     have HT:=hI hTR;have f9:decide ((512:Int)<(ts.length:Int))=false:=decide_eq_false (by omega);clear hr hn hmax hsm hm h5 hrest hs hraw hq hlen hTR hcv hp0 htell hb hts
     go_enter func101,ntmps101
     go_wp2_with (first
      | (go_at_call 36;(with_reducible refine (HC.out _ HB0.out).mono ?_);rintro e1 w1 ⟨rfl,hb1⟩;have HB1:=hI hb1;have kv1:=cell_of_one (HBX.out w1 hb1);clear hb1)
      | (go_at_call 135;(with_reducible refine (HR.out _ (stp HB0.out HB1.out)).mono ?_);rintro e2 w2 ⟨rfl,hb2⟩;have HB2:=hI hb2;clear hb2)
      | (go_at_call 136;(with_reducible refine (HTL.out w2 (stp (stp HB0.out HB1.out) HB2.out) (HBX.out w2 (stp HB1.out HB2.out))).mono ?_);rintro e3 w3 ⟨rfl,Ao,co,hgl,hrd,hle,hcm,hnl,hbw⟩;have kl:=cell_of_one hgl;have HBW:=hI hbw;have HRD:=hI hrd;have HRE:=hI (And.intro hle (And.intro hcm hnl));clear hgl hrd hbw hle hcm hnl)
      | fail)
     go_ret2
     exact ⟨ts,0,Ao,co,HT.out,rfl,HRD.out,HRE.out.1,HRE.out.2.1,HRE.out.2.2,HBW.out⟩
def zED (s:List UInt8):List Nd × Int:=if (lexR s).2.2=0 then zBE (lexR s).1 else ([],(lexR s).2.2)
theorem zCC.with {ts:List Tk} {w w':World} {e:Ending} {v:List Nd} {q:Int} {n:Nat} (h:zCC ts w e w') (hp:zBE ts=(v,q)) (hn:v.length=n):∃A c,e=.returned (.tuple #[.slice A n c,.int .i64 q])/\RdB NdS w' A v/\n<=c/\c<=maxLen/\(A=none->c=0)/\Below w.heap.size w w':=by
 obtain ⟨v2,q2,A,c,h1,h2,h3,h4,h5,h6,h7⟩:=h;rw [hp] at h1;obtain ⟨rfl,rfl⟩:=(Prod.mk.injEq _ _ _ _).mp h1;exact ⟨A,c,by rw [←hn];exact h2,h3,by rw [←hn];exact h4,h5,h6,h7⟩
theorem zG6.with2 {v:List Nd} {w w':World} {e:Ending} {ts:List Tk} {q:Int} {tn:Nat} (h:zG6 v w e w') (ht:zA1 v=(ts,q)) (hl:ts.length=tn):∃A c,e=.returned (.tuple #[.slice A tn c,.int .i64 q])/\RdC TkC w' w'.heap.size A ts/\Below w.heap.size w w':=by
 obtain ⟨t2,q2,A,c,h1,h2,h3,_,_,_,h4⟩:=h;rw [ht] at h1;obtain ⟨rfl,rfl⟩:=(Prod.mk.injEq _ _ _ _).mp h1;exact ⟨A,c,by rw [←hl];exact h2,h3,h4⟩
end Hx
namespace Hx
open Lx Tr Tx Nmb Es Ns
theorem zBh.with {l:List Nd} {z:Int} {w w':World} {e:Ending} {n:Nat} (h:zBh l z w e w') (hn:l.length=n):∃A c,e=.returned (.tuple #[.slice A n c,.int .i64 z])/\RdB NdS w' A l/\Below w.heap.size w w':=by
 obtain ⟨A,c,h1,h2,h3⟩:=h;exact ⟨A,c,by rw [←hn];exact h1,h2.all,h3⟩
theorem zO1 {α β:Type} {C:CodS α} {w:World} {S:Nat->Prop} {b:Nat} {cs:Array Value} {T:TypeId} {fr:Nat × Nat} (f:β->List Value) (val:β->α) (hk:∀b,(f b).length=C.k) (L:List β) (h:w.heap[b]?=some (.cells cs T fr)) (hcs:cs.toList=L.flatMap f)
 (hR:∀x∈L,C.R w S (f x) (val x)) (hS:S b):RdS C w S (some ⟨b,0,none⟩) (L.map val):=λ_=>by
 refine ⟨b,0,rfl,hS,λj hj=>?_⟩;have hj':j<L.length:=by simpa using hj
 refine ⟨f (L[j]'hj'),by simpa using hR _ (List.getElem_mem hj'),λi hi=>?_⟩;have hi':i<C.k:=by rw [hk] at hi;exact hi
 rw [Nat.zero_add,zAA w b _ cs T fr h,←zEm f C.k hk L j i hj' hi',←hcs,Array.getElem?_toList]
theorem zOm {w:World} {S:Nat->Prop} {b:Nat} {cs:Array Value} {T:TypeId} {fr:Nat × Nat} (L:List NB) (h:w.heap[b]?=some (.cells cs T fr)) (hcs:cs.toList=L.flatMap zAL) (hin:∀x∈L,NdIn x.n x.x x.y x.z x.A x.c w S) (hS:S b):RdS NdS w S (some ⟨b,0,none⟩) (L.map NB.n) :=
 zO1 (C:=NdS) zAL NB.n (λ_=>rfl) L h hcs (λx hx=>⟨x.x,x.y,x.z,x.A,x.c,rfl,hin x hx⟩) hS
def nbOf (n:Nd) (A:Option Addr):NB:=⟨n,⟨n.space.toArray⟩,⟨n.name.toArray⟩,⟨n.text.toArray⟩,A,n.attrs.length⟩
theorem zQq {n:Nd} {A:Option Addr} {w:World} {S:Nat->Prop} (hA:RdS AtS w S A n.attrs) (h0:A=none->n.attrs.length=0) (h1:n.kind<256/\n.attrs.length<=1000∧ -9223372036854775808<=n.many/\n.many<=9223372036854775807):NdIn (nbOf n A).n (nbOf n A).x (nbOf n A).y (nbOf n A).z (nbOf n A).A (nbOf n A).c w S :=
 ⟨rfl,rfl,rfl,hA,Nat.le_refl _,by show n.attrs.length<=maxLen;unfold maxLen;omega,h0,h1.1,h1.2.2.1,h1.2.2.2⟩
def zLU (k:Nat) (n:Nd):Bool:=decide (n.space.length<=k)&&decide (n.name.length<=k)&&decide (n.text.length<=k)&&decide (n.attrs.length<=400000)&&n.attrs.all λa=>decide (a.space.length<=k)&&decide (a.name.length<=k)&&decide (a.value.length<=k)
theorem zNk {k:Nat} {v:List Nd} (h:(v.all (zLU k))=true):∀n∈v,zAy k n:=λn hn=>by
 have h1:=List.all_eq_true.1 h n hn;unfold zLU at h1;simp only [Bool.and_eq_true,decide_eq_true_eq,List.all_eq_true,and_assoc] at h1;obtain ⟨h1,h2,h3,h4,h5⟩:=h1;exact ⟨h1,h2,h3,h4,h5⟩
theorem zAy.up {k k':Nat} {n:Nd} (h:zAy k n) (hk:k<=k'):zAy k' n :=
 ⟨Nat.le_trans h.space hk,Nat.le_trans h.name hk,Nat.le_trans h.text hk,h.attrs,λa ha=>by obtain ⟨h1,h2,h3⟩:=h.each a ha;exact ⟨Nat.le_trans h1 hk,Nat.le_trans h2 hk,Nat.le_trans h3 hk⟩⟩
end Hx
end Go.Proofs.YtlgppednjkbgiaaGreatDoor
