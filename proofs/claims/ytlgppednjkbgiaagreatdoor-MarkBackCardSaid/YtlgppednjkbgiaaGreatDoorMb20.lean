/- Texts put together. -/
import Derived.Test.YtlgppednjkbgiaaGreatDoorMbA
import Derived.Test.YtlgppednjkbgiaaGreatDoorMb19
import Derived.Test.YtlgppednjkbgiaaGreatDoorMb09
import Derived.Deep.AppendLies
import Derived.Test.YtlgppednjkbgiaaGreatDoorMb11
import Derived.Shelf.Strings.SlTrimAscii
import Derived.Deep.QuietTactic
import Derived.Deep.Cut
import Derived.Test.YtlgppednjkbgiaaGreatDoorMb14
import Derived.Test.YtlgppednjkbgiaaGreatDoorShelf2
import Derived.Test.YtlgppednjkbgiaaGreatDoorMb05
import Derived.Test.YtlgppednjkbgiaaGreatDoorMb03
import Derived.Laws.RangeString
import Derived.Lib.MapLaws
import Derived.RegionTactic
import Derived.Deep.RegionHeld3
import Derived.Deep.LoopGhost
set_option maxRecDepth 100000
set_option maxHeartbeats 16000000
set_option linter.unusedVariables false
namespace Go.Proofs.YtlgppednjkbgiaaGreatDoor
open Go.RowKit Go.Proofs.Tryz
namespace Hx
open Lx Tr Tx Nmb Es
structure zA8 (B gs base hi:Nat) (L:List NB) (O:List Nat) (bb:Bool) (Vn Vo:Value) (wr:World):Prop where
 box:wr.heap[gs]?=some (.cells #[Vn,Vo,.bool bb] 180 (0,0))
 gr:GrSt base hi L O Vn Vo wr
 lo:B<=gs/\gs<base
structure FrP (B gs:Nat) (Vn Vo:Value) (w:World) (Vn' Vo':Value) (w':World):Prop where
 bel:Below B w w'
 blk:∀k,k<w.heap.size->k≠gs->some k≠Vn.ownBlock->some k≠Vo.ownBlock->w'.heap[k]?=w.heap[k]?
 lieN:∀k,k<w.heap.size->Vn'.ownBlock=some k->Vn.ownBlock=some k
 lieO:∀k,k<w.heap.size->Vo'.ownBlock=some k->Vo.ownBlock=some k
theorem FrP.below {B gs:Nat} {Vn Vo:Value} {w w':World} (h:Below w.heap.size w w') (hB:B<=w.heap.size):FrP B gs Vn Vo w Vn Vo w':=⟨h.mono hB,λk hk _ _ _=>h.block k hk,λ_ _ e=>e,λ_ _ e=>e⟩
theorem FrP.trans {B gs:Nat} {Vn Vo Vn1 Vo1 Vn2 Vo2:Value} {w w1 w2:World} (h:FrP B gs Vn Vo w Vn1 Vo1 w1) (k:FrP B gs Vn1 Vo1 w1 Vn2 Vo2 w2):FrP B gs Vn Vo w Vn2 Vo2 w2 :=
 ⟨h.bel.trans k.bel,λq h1 h2 h3 h4=>(k.blk q (Nat.lt_of_lt_of_le h1 h.bel.size) h2 (λe=>h3 (h.lieN q h1 e.symm).symm) (λe=>h4 (h.lieO q h1 e.symm).symm)).trans (h.blk q h1 h2 h3 h4),
  λq h1 h2=>h.lieN q h1 (k.lieN q (Nat.lt_of_lt_of_le h1 h.bel.size) h2),λq h1 h2=>h.lieO q h1 (k.lieO q (Nat.lt_of_lt_of_le h1 h.bel.size) h2)⟩
def zDG (O:List Nat) (L:List NB):List NB:=match O.getLast? with
 | none=>L
 | some i=>L.modify i zEL
theorem zHY (O:List Nat) (L:List NB):(zDG O L).map NB.n=bump O (L.map NB.n):=by
 unfold zDG bump
 cases O.getLast? with
 | none=>rfl
 | some i=>exact zIb L i
theorem zG1 (O:List Nat) (L:List NB):(zDG O L).length=L.length:=by
 unfold zDG
 cases O.getLast? with
 | none=>rfl
 | some i=>exact List.length_modify ..
theorem zER {w:World} {base:Nat} {e:TypeId} {size n c:Nat} {A:Option Addr} {xs:List Value} (h:w.ownsRow base e size (.slice A n c) n xs) (hn:0<n):∃g cur,A=some ⟨g,0,none⟩/\w.heap[g]?=some (.cells cur e (0,0))/\base<=g/\g<w.heap.size/\∀j u,xs[j]?=some u->w.cell? ⟨g,j,none⟩=some u:=by
 have h9:=h;rcases h.2 with ⟨e0,h0⟩ | ⟨g,cap,cur,hv,hb,hg,_⟩
 · injection e0 with _ e0 _
   omega
 · injection hv with e1 e2 e3
   subst e1;refine ⟨g,cur,rfl,hg,hb,(h9.lt g rfl).2,λj u hu=>?_⟩;have:=h9.cells (g:=g) rfl j u hu;rw [zBB,Nat.zero_add] at this;exact this
theorem zOE {L:List NB} {i:Nat} (hi:i<L.length):(L.flatMap zAL)[i*6+5]?=some (.int .i64 (L[i]'hi).n.many):=by
 rw [zEm zAL 6 (λ_=>rfl) L i 5 hi (by decide)]
 rfl
theorem zOu {L:List NB} {i:Nat} (hi:i<L.length):(L.flatMap zAL)[i*6+2]?=some (.string (L[i]'hi).y):=by
 rw [zEm zAL 6 (λ_=>rfl) L i 2 hi (by decide)]
 rfl
theorem zMh {O:List Nat} {i k:Nat} (h:O[k]?=some i):((zs O).map encZ)[k]?=some (.int .i64 (i:Int)):=by
 simp [zs,h,encZ]
theorem zA8.bump {B gs base hi n c go gn:Nat} {L:List NB} {O:List Nat} {bb:Bool} {Vo:Value} {wr:World} (h:zA8 B gs base hi L O bb (.slice (some ⟨gn,0,none⟩) n c) Vo wr) (hn:L.length=n) (i:Nat) (hi':i<L.length) (hm:(L[i]'hi').n.many<=1000000) :
 zA8 B gs base hi (L.modify i zEL) O bb (.slice (some ⟨gn,0,none⟩) n c) Vo (wr.setCell ⟨gn,i*6+5,none⟩ (.int .i64 ((L[i]'hi').n.many+1)))/\FrP B gs (.slice (some ⟨gn,0,none⟩) n c) Vo wr (.slice (some ⟨gn,0,none⟩) n c) Vo (wr.setCell ⟨gn,i*6+5,none⟩ (.int .i64 ((L[i]'hi').n.many+1))):=by
 subst hn;have hg:=h.gr.nd.lt gn rfl;have hlo:=h.lo;have hoth:∀q,q≠gn->(wr.setCell ⟨gn,i*6+5,none⟩ (.int .i64 ((L[i]'hi').n.many+1))).heap[q]?=wr.heap[q]?:=λq hq=>heap_setCell_other _ _ _ _ hq
 exact ⟨⟨(hoth gs (by omega)).trans h.box,h.gr.bump i hi' hm,h.lo⟩,(Below.refl B wr).setCell (p:=⟨gn,i*6+5,none⟩) (by show B<=gn;omega) _,λk _ _ hk _=>hoth k (λe=>hk (by rw [e];rfl)),λ_ _ e=>e,λ_ _ e=>e⟩
theorem zB7 {w:World} {k:Nat} {o:Obj} (h:w.heap[k]?=some o):k<w.heap.size:=(Array.getElem?_eq_some_iff.1 h).1
theorem zA8.below {B gs base hi hi':Nat} {L:List NB} {O:List Nat} {bb:Bool} {Vn Vo:Value} {wr w':World} (h:zA8 B gs base hi L O bb Vn Vo wr) (hb:Below wr.heap.size wr w') (h1:hi<=hi') (h2:hi'≤w'.heap.size):zA8 B gs base hi' L O bb Vn Vo w' :=
 ⟨zAB h.box hb,h.gr.below hb h1 h2,h.lo⟩
theorem zA8.pushN {B gs base hi n c:Nat} {L:List NB} {O:List Nat} {bb:Bool} {A:Option Addr} {Vo:Value} {W:World} {b:NB} {g8 c8:Nat} {w8:World} {ob:Obj} (h:zA8 B gs base hi L O bb (.slice A n c) Vo W) (hn:L.length=n)
 (hb:NdIn b.n b.x b.y b.z b.A b.c W (λk=>base<=k/\k<hi/\some k≠(Value.slice A n c).ownBlock/\some k≠Vo.ownBlock)) (hown8:w8.ownsRow base 42 6 (.slice (some ⟨g8,0,none⟩) (n+1) c8) (n+1) (L.flatMap zAL++zAL b))
 (hgr:(W.alloc ob).grownBy w8 (Value.slice A n c).ownBlock) (hor:(Value.slice A n c).ownBlock=some g8∨g8=W.heap.size+1) :
 zA8 B gs base hi (L++[b]) O bb (.slice (some ⟨g8,0,none⟩) (n+1) c8) Vo (w8.setCell ⟨gs,0,none⟩ (.slice (some ⟨g8,0,none⟩) (n+1) c8))/\FrP B gs (.slice A n c) Vo W (.slice (some ⟨g8,0,none⟩) (n+1) c8) Vo (w8.setCell ⟨gs,0,none⟩ (.slice (some ⟨g8,0,none⟩) (n+1) c8)):=by
 subst hn;have hlo:=h.lo;have hbz:=h.gr.lo;have hsz:=h.gr.sz;have ha:Below W.heap.size W (W.alloc ob):=stpA (Below.refl _ _) _;have h2:=h.below ha (Nat.le_refl _) (by rw [World.size_alloc];omega);have hgs:some gs≠(Value.slice A L.length c).ownBlock:=λe=>by have:=(h.gr.nd.lt gs e.symm).1;omega
 have hb2:NdIn b.n b.x b.y b.z b.A b.c (W.alloc ob) (λk=>base<=k/\k<hi/\some k≠(Value.slice A L.length c).ownBlock/\some k≠Vo.ownBlock):=hb.keep (λ_ hk=>hk) λk o hk=>zAq (ha.block k (by have:=hk.2.1;omega))
 have hp:=h2.gr.push b hb2 hown8 hgr (by
  rcases hor with e | e
  · exact .inl e.symm
  · refine .inr ⟨g8,by omega,rfl,λe2=>?_⟩
    have:=(h.gr.op.lt g8 e2).2
    omega)
 have hs8:=hgr.size;rw [World.size_alloc] at hs8;have hoth:∀q,q≠gs->(w8.setCell ⟨gs,0,none⟩ (.slice (some ⟨g8,0,none⟩) (L.length+1) c8)).heap[q]?=w8.heap[q]?:=λq hq=>heap_setCell_other _ _ _ _ hq
 have hbox:w8.heap[gs]?=some (.cells #[.slice A L.length c,Vo,.bool bb] 180 (0,0)):=(hgr.block gs (by have:=zB7 h2.box;omega) hgs).trans h2.box;refine ⟨⟨?_,hp.keep (λq hq _=>hoth q (by omega)) (Nat.le_refl _) (by simp [World.setCell];omega),h.lo⟩,⟨?_,λk hk h1 h3 _=>(hoth k h1).trans ((hgr.block k (by rw [World.size_alloc];omega) h3).trans (ha.block k hk)),λk hk e=>?_,λ_ _ e=>e⟩⟩
 · exact heap_setCell_same w8 gs 0 _ _ _ hbox
 · exact (((Below.refl B W).alloc (by omega) ob).grown hgr (by rw [World.size_alloc];omega) (λq hq=>by have:=(h.gr.nd.lt q hq).1;omega)).setCell (p:=⟨gs,0,none⟩) hlo.1 _
 · have e3:g8=k:=by simpa [Value.ownBlock] using e
   rcases hor with e4 | e4
   · rw [e4,e3]
   · omega
theorem zIr (B gs base hi:Nat) (L:List NB) (O:List Nat) (bb:Bool) (Vn Vo:Value) (b:NB) (w:World) (h:zA8 B gs base hi L O bb Vn Vo w) (hb:NdIn b.n b.x b.y b.z b.A b.c w (λk=>base<=k/\k<hi/\some k≠Vn.ownBlock/\some k≠Vo.ownBlock)) (hl:L.length<=100000) (hl2:O.length<=100000) (hO:O=[]) :
 Calls prog 205 #[.pointer (some ⟨gs,0,none⟩),.agg #[.int .u8 (b.n.kind:Int),.string b.x,.string b.y,.slice b.A b.n.attrs.length b.c,.string b.z,.int .i64 b.n.many]] w λe w'=>e=.returned (.tuple #[])/\∃Vn',zA8 B gs base hi (zDG O L++[b]) O bb Vn' Vo w'∧FrP B gs Vn Vo w Vn' Vo w':=by
 obtain ⟨i0,hi0,hz0,hz1,hz2⟩:=info_parts zFB;have HI:=hI hi0;have HZ0:=hI hz0;have HZ1:=hI hz1;have HZ2:=hI hz2;obtain ⟨An,cn,rfl⟩:=zAD h.gr.nd;obtain ⟨Ao,co,rfl⟩:=zAD h.gr.op;obtain ⟨n,hn⟩:∃n,L.length=n:=⟨_,rfl⟩;obtain ⟨m,hm⟩:∃m,O.length=m:=⟨_,rfl⟩;subst hO;obtain rfl:0=m:=hm;rw [show ([]:List Nat).length=0 from rfl] at h;rw [show ([]:List Nat).length=0 from rfl] at hb ⊢;simp only [hn] at h hb ⊢;obtain ⟨W0,hW0⟩:∃W0,w.alloc (.cells #[.int .u8 (b.n.kind:Int),.string b.x,.string b.y,.slice b.A b.n.attrs.length b.c,.string b.z,.int .i64 b.n.many] 42)=W0:=⟨_,rfl⟩;have HST:=hI h;have HB:=hI hb;have HL:Hid (n<=100000):=hI (by omega);have HBE:Hid (Below w.heap.size w W0):=hI (by rw [←hW0];exact stpA (Below.refl _ _) _);have HBX:Hid (W0.heap[w.heap.size]?=some (.cells #[.int .u8 (b.n.kind:Int),.string b.x,.string b.y,.slice b.A b.n.attrs.length b.c,.string b.z,.int .i64 b.n.many] 42 (0,0))):=hI (by rw [←hW0];exact heap_alloc_new _ _);have HS0:Hid (W0.heap.size=w.heap.size+1):=hI (by rw [←hW0,World.size_alloc]);have hg0:=zAB h.box HBE.out;have k1:=zAA W0 _ 1 _ _ _ hg0;have HSTW:=hI (h.below HBE.out (Nat.le_refl _) (Nat.le_trans h.gr.sz HBE.out.size));have HOWN:Hid (W0.drew.ownsRow base 42 6 (.slice An n cn) n (L.flatMap zAL)):=hI (by have:=zAF HSTW.out.gr.nd (Below.refl W0.heap.size W0).drew (Nat.le_refl _);rw [hn] at this;exact this);have HNL:=hI hn;have HB9:Hid (NdIn b.n b.x b.y b.z b.A b.c W0.drew (λk=>base<=k/\k<hi/\some k≠(Value.slice An n cn).ownBlock/\some k≠(Value.slice Ao 0 co).ownBlock)):=hI ((hb:NdIn b.n b.x b.y b.z b.A b.c w (λk=>base<=k/\k<hi/\some k≠(Value.slice An n cn).ownBlock/\some k≠(Value.slice Ao 0 co).ownBlock)).keep (λ_ hk=>hk) λk o hk=>zAq ((HBE.out.drew).block k (by have:=hk.2.1;have:=h.gr.sz;omega)));have HNB:Hid (some w.heap.size≠(Value.slice An n cn).ownBlock):=hI λe=>by have:=(h.gr.nd.lt _ e.symm).2;omega
 have HSZ:Hid (base<=W0.drew.heap.size):=hI (by have:=HSTW.out.gr.lo;have:=HSTW.out.gr.sz;exact Nat.le_trans (by assumption) (by assumption));clear h hb hl hl2 hi0 hz0 hz1 hz2 hg0
 go_enter func205,ntmps205
 go_wp2_with fail
 refine wp_region_noPanic ?_;refine zAN (λW=>W.cell? ⟨gs,0,none⟩=some (.slice An n cn)/\W.cell? ⟨w.heap.size,0,none⟩=some (.int .u8 (b.n.kind:Int))/\W.cell? ⟨w.heap.size,1,none⟩=some (.string b.x)/\W.cell? ⟨w.heap.size,2,none⟩=some (.string b.y)/\W.cell? ⟨w.heap.size,3,none⟩=some (.slice b.A b.n.attrs.length b.c)/\W.cell? ⟨w.heap.size,4,none⟩=some (.string b.z)/\W.cell? ⟨w.heap.size,5,none⟩=some (.int .i64 b.n.many)) 10 (by kernel_rfl) ?_;have hS:W0.drew.cell? ⟨gs,0,none⟩=some (.slice An n cn)/\W0.drew.cell? ⟨w.heap.size,0,none⟩=some (.int .u8 (b.n.kind:Int))/\W0.drew.cell? ⟨w.heap.size,1,none⟩=some (.string b.x)/\W0.drew.cell? ⟨w.heap.size,2,none⟩=some (.string b.y)/\W0.drew.cell? ⟨w.heap.size,3,none⟩=some (.slice b.A b.n.attrs.length b.c)/\W0.drew.cell? ⟨w.heap.size,4,none⟩=some (.string b.z)/\W0.drew.cell? ⟨w.heap.size,5,none⟩=some (.int .i64 b.n.many):=⟨zAA W0.drew _ 0 _ _ _ HSTW.out.box,zAA W0.drew _ 0 _ _ _ HBX.out,zAA W0.drew _ 1 _ _ _ HBX.out,zAA W0.drew _ 2 _ _ _ HBX.out,zAA W0.drew _ 3 _ _ _ HBX.out,zAA W0.drew _ 4 _ _ _ HBX.out,zAA W0.drew _ 5 _ _ _ HBX.out⟩;refine tkZ (i:=0) (v:=.pointer (some ⟨gs,0,none⟩)) rfl (Or.inl ⟨by rfl,?_⟩) hS ?_
 · intro w' hSw;(try dsimp only at hSw);go_simp
 try simp only [Act.put,sTA,sTB,sTC]
 refine tkZ (i:=1) (v:=.pointer (some ⟨gs,0,none⟩)) rfl (Or.inl ⟨by rfl,?_⟩) hS ?_
 · intro w' hSw;(try dsimp only at hSw);go_simp
 try simp only [Act.put,sTA,sTB,sTC]
 refine tkZ (i:=2) (v:=.pointer (some ⟨gs,0,none⟩)) rfl (Or.inl ⟨by rfl,?_⟩) hS ?_
 · intro w' hSw;(try dsimp only at hSw);go_simp
 try simp only [Act.put,sTA,sTB,sTC]
 refine tkZ (i:=3) (v:=.pointer (some ⟨gs,0,none⟩)) rfl (Or.inl ⟨by rfl,?_⟩) hS ?_
 · intro w' hSw;(try dsimp only at hSw);go_simp
 try simp only [Act.put,sTA,sTB,sTC]
 refine tkZ (i:=4) (v:=.slice An n cn) rfl (Or.inl ⟨by rfl,?_⟩) hS ?_
 · intro w' hSw;(try dsimp only at hSw);go_simp
 try simp only [Act.put,sTA,sTB,sTC]
 refine tkZ (i:=5) (v:=.agg #[.int .u8 (b.n.kind:Int),.string b.x,.string b.y,.slice b.A b.n.attrs.length b.c,.string b.z,.int .i64 b.n.many]) rfl (Or.inl ⟨by rfl,?_⟩) hS ?_
 · intro w' hSw;(try dsimp only at hSw);go_simp
 try simp only [Act.put,sTA,sTB,sTC]
 refine zAS (i:=6) (by kernel_rfl) rfl (λK hK=>?_)
 go_simp
 have HA1:=hI (zAB (a:=W0.drew) HSTW.out.box (stpA (Below.refl W0.drew.heap.size W0.drew) (.cells #[.int .u8 (b.n.kind:Int),.string b.x,.string b.y,.slice b.A b.n.attrs.length b.c,.string b.z,.int .i64 b.n.many] 42)));have HA2:=hI (zAB (a:=W0.drew) HBX.out (stpA (Below.refl W0.drew.heap.size W0.drew) (.cells #[.int .u8 (b.n.kind:Int),.string b.x,.string b.y,.slice b.A b.n.attrs.length b.c,.string b.z,.int .i64 b.n.many] 42)));have hS6:(W0.drew.alloc (.cells #[.int .u8 (b.n.kind:Int),.string b.x,.string b.y,.slice b.A b.n.attrs.length b.c,.string b.z,.int .i64 b.n.many] 42)).cell? ⟨gs,0,none⟩=some (.slice An n cn)/\(W0.drew.alloc (.cells #[.int .u8 (b.n.kind:Int),.string b.x,.string b.y,.slice b.A b.n.attrs.length b.c,.string b.z,.int .i64 b.n.many] 42)).cell? ⟨w.heap.size,0,none⟩=some (.int .u8 (b.n.kind:Int))/\(W0.drew.alloc (.cells #[.int .u8 (b.n.kind:Int),.string b.x,.string b.y,.slice b.A b.n.attrs.length b.c,.string b.z,.int .i64 b.n.many] 42)).cell? ⟨w.heap.size,1,none⟩=some (.string b.x)/\(W0.drew.alloc (.cells #[.int .u8 (b.n.kind:Int),.string b.x,.string b.y,.slice b.A b.n.attrs.length b.c,.string b.z,.int .i64 b.n.many] 42)).cell? ⟨w.heap.size,2,none⟩=some (.string b.y)/\(W0.drew.alloc (.cells #[.int .u8 (b.n.kind:Int),.string b.x,.string b.y,.slice b.A b.n.attrs.length b.c,.string b.z,.int .i64 b.n.many] 42)).cell? ⟨w.heap.size,3,none⟩=some (.slice b.A b.n.attrs.length b.c)/\(W0.drew.alloc (.cells #[.int .u8 (b.n.kind:Int),.string b.x,.string b.y,.slice b.A b.n.attrs.length b.c,.string b.z,.int .i64 b.n.many] 42)).cell? ⟨w.heap.size,4,none⟩=some (.string b.z)/\(W0.drew.alloc (.cells #[.int .u8 (b.n.kind:Int),.string b.x,.string b.y,.slice b.A b.n.attrs.length b.c,.string b.z,.int .i64 b.n.many] 42)).cell? ⟨w.heap.size,5,none⟩=some (.int .i64 b.n.many):=⟨zAA (W0.drew.alloc (.cells #[.int .u8 (b.n.kind:Int),.string b.x,.string b.y,.slice b.A b.n.attrs.length b.c,.string b.z,.int .i64 b.n.many] 42)) _ 0 _ _ _ HA1.out,zAA (W0.drew.alloc (.cells #[.int .u8 (b.n.kind:Int),.string b.x,.string b.y,.slice b.A b.n.attrs.length b.c,.string b.z,.int .i64 b.n.many] 42)) _ 0 _ _ _ HA2.out,zAA (W0.drew.alloc (.cells #[.int .u8 (b.n.kind:Int),.string b.x,.string b.y,.slice b.A b.n.attrs.length b.c,.string b.z,.int .i64 b.n.many] 42)) _ 1 _ _ _ HA2.out,zAA (W0.drew.alloc (.cells #[.int .u8 (b.n.kind:Int),.string b.x,.string b.y,.slice b.A b.n.attrs.length b.c,.string b.z,.int .i64 b.n.many] 42)) _ 2 _ _ _ HA2.out,zAA (W0.drew.alloc (.cells #[.int .u8 (b.n.kind:Int),.string b.x,.string b.y,.slice b.A b.n.attrs.length b.c,.string b.z,.int .i64 b.n.many] 42)) _ 3 _ _ _ HA2.out,zAA (W0.drew.alloc (.cells #[.int .u8 (b.n.kind:Int),.string b.x,.string b.y,.slice b.A b.n.attrs.length b.c,.string b.z,.int .i64 b.n.many] 42)) _ 4 _ _ _ HA2.out,zAA (W0.drew.alloc (.cells #[.int .u8 (b.n.kind:Int),.string b.x,.string b.y,.slice b.A b.n.attrs.length b.c,.string b.z,.int .i64 b.n.many] 42)) _ 5 _ _ _ HA2.out⟩;refine hK.out _ _ (λ_=>hS6) (λ_=>?_);clear hK K hS
 try simp only [Act.put,sTA,sTB,sTC]
 refine zAS (i:=7) (by kernel_rfl) rfl (λK hK=>?_);refine step_append_lies _ rfl (.tmp 34) (.tmp 36) 22 rfl base 42 i0 (.agg #[.int .u8 0,.string ⟨#[]⟩,.string ⟨#[]⟩,.slice none 0 0,.string ⟨#[]⟩,.int .i64 0]) 6 88 underlying22 HI.out HZ0.out HZ1.out HZ2.out rfl (by decide) _ n _ rfl (zAF HOWN.out (stpA (Below.refl _ _) _) (Nat.le_refl _)) ⟨W0.heap.size,0,none⟩ 1 1 [.int .u8 (b.n.kind:Int),.string b.x,.string b.y,.slice b.A b.n.attrs.length b.c,.string b.z,.int .i64 b.n.many] rfl rfl (zAp W0.drew [.int .u8 (b.n.kind:Int),.string b.x,.string b.y,.slice b.A b.n.attrs.length b.c,.string b.z,.int .i64 b.n.many] 42 _ rfl) (by simp [Value.oneCell']) (by decide) (by have:=HL.out;unfold maxLen;omega) (by have:=HL.out;omega) (by have:=HSZ.out;show base<=(World.alloc W0 _).heap.size;rw [World.size_alloc];exact Nat.le_succ_of_le this) (W0.heap.size+1) (by show (World.alloc W0 _).heap.size=_;rw [World.size_alloc]) ?_;intro g8 c8 w8 hown8 hgr8 hor hlt8;have hpush:=(HSTW.out.below (Below.refl W0.heap.size W0).drew (Nat.le_refl _) (HSTW.out.gr.sz)).pushN (b:=b) HNL.out HB9.out hown8 hgr8 hor;have HP8:=hI hpush.1;have HF8:=hI hpush.2
 have st8:∀(q:Nat) (o:Obj),W0.heap[q]?=some o->some q≠(Value.slice An n cn).ownBlock->w8.heap[q]?=some o:=λq o ho hne=>by
  have h1:=zAB (a:=W0.drew) ho (stpA (Below.refl W0.drew.heap.size W0.drew) (.cells #[.int .u8 (b.n.kind:Int),.string b.x,.string b.y,.slice b.A b.n.attrs.length b.c,.string b.z,.int .i64 b.n.many] 42));exact (hgr8.block _ (Array.getElem?_eq_some_iff.1 h1).1 hne).trans h1
 have hgl:=st8 gs _ HSTW.out.box (λe=>by have:=(HSTW.out.gr.nd.lt _ e.symm).1;have:=HSTW.out.lo;omega);have hbx:=st8 w.heap.size _ HBX.out (λe=>HNB.out e);have k8:w8.cell? ⟨gs,0,none⟩=some (.slice An n cn)/\w8.cell? ⟨w.heap.size,0,none⟩=some (.int .u8 (b.n.kind:Int))/\w8.cell? ⟨w.heap.size,1,none⟩=some (.string b.x)/\w8.cell? ⟨w.heap.size,2,none⟩=some (.string b.y)/\w8.cell? ⟨w.heap.size,3,none⟩=some (.slice b.A b.n.attrs.length b.c)/\w8.cell? ⟨w.heap.size,4,none⟩=some (.string b.z)/\w8.cell? ⟨w.heap.size,5,none⟩=some (.int .i64 b.n.many):=⟨zAA w8 _ 0 _ _ _ hgl,zAA w8 _ 0 _ _ _ hbx,zAA w8 _ 1 _ _ _ hbx,zAA w8 _ 2 _ _ _ hbx,zAA w8 _ 3 _ _ _ hbx,zAA w8 _ 4 _ _ _ hbx,zAA w8 _ 5 _ _ _ hbx⟩;have f8:w8.frozen? ⟨gs,0,none⟩=false:=zAZ w8 _ 0 _ _ hgl;have k81:=k8.1;clear hown8 hgr8 hor hgl hbx st8 hpush;refine hK.out _ _ (λ_=>k8) (λ_=>?_);clear hK K
 try simp only [Act.put,sTA,sTB,sTC]
 refine zAS (i:=8) (by kernel_rfl) rfl (λK hK=>?_)
 go_simp
 refine hK.out _ _ (λ_=>k8) (λ_=>?_);clear hK K
 try simp only [Act.put,sTA,sTB,sTC]
 refine tkZ (i:=9) (v:=.pointer (some ⟨gs,0,none⟩)) rfl (Or.inl ⟨by rfl,?_⟩) k8 ?_
 · intro w' hSw;(try dsimp only at hSw);go_simp
 try simp only [Act.put,sTA,sTB,sTC]
 refine zAS (i:=10) (by kernel_rfl) rfl (λK hK=>?_)
 go_simp
 refine hK.out _ _ (λh=>absurd rfl h) (λ_=>?_);clear hK K
 try simp only [Act.put,sTA,sTB,sTC]
 refine zCU (by kernel_rfl) ?_ _;refine NoPanic.normal ?_
 go_wp2_with fail
 (try simp only [Exit.inBlock,Exit.then,Exit.noGoto])
 go_end0
 exact ⟨rfl,_,HP8.out,(FrP.below HBE.out (by have:=HST.out.gr.sz;have:=HST.out.gr.lo;have:=HST.out.lo;omega)).trans ((FrP.below (Below.refl _ _).drew (by have:=HSTW.out.gr.sz;have:=HSTW.out.gr.lo;have:=HSTW.out.lo;omega)).trans HF8.out)⟩
theorem zIu (B gs base hi:Nat) (L:List NB) (O:List Nat) (bb:Bool) (Vn Vo:Value) (b:NB) (w:World) (h:zA8 B gs base hi L O bb Vn Vo w) (hb:NdIn b.n b.x b.y b.z b.A b.c w (λk=>base<=k/\k<hi/\some k≠Vn.ownBlock/\some k≠Vo.ownBlock)) (hl:L.length<=100000) (hl2:O.length<=100000) (O1:List Nat) (i:Nat) (hO:O=O1++[i]) (hi':i<L.length) (hmm:0<=(L[i]'hi').n.many/\(L[i]'hi').n.many<=1000000) :
 Calls prog 205 #[.pointer (some ⟨gs,0,none⟩),.agg #[.int .u8 (b.n.kind:Int),.string b.x,.string b.y,.slice b.A b.n.attrs.length b.c,.string b.z,.int .i64 b.n.many]] w λe w'=>e=.returned (.tuple #[])/\∃Vn',zA8 B gs base hi (zDG O L++[b]) O bb Vn' Vo w'∧FrP B gs Vn Vo w Vn' Vo w':=by
 obtain ⟨i0,hi0,hz0,hz1,hz2⟩:=info_parts zFB;have HI:=hI hi0;have HZ0:=hI hz0;have HZ1:=hI hz1;have HZ2:=hI hz2;obtain ⟨An,cn,rfl⟩:=zAD h.gr.nd;obtain ⟨Ao,co,rfl⟩:=zAD h.gr.op;obtain ⟨n,hn⟩:∃n,L.length=n:=⟨_,rfl⟩;obtain ⟨m,hm⟩:∃m,O.length=m:=⟨_,rfl⟩;obtain ⟨k,hk⟩:∃k,O1.length=k:=⟨_,rfl⟩;have hmk:m=k+1:=by rw [←hm,hO,List.length_append,hk];rfl
 subst hmk;obtain ⟨mm,hmv⟩:∃mm,(L[i]'hi').n.many=mm:=⟨_,rfl⟩;rw [hmv] at hmm;have hbl:zDG O L=L.modify i zEL:=by unfold zDG;rw [hO,List.getLast?_concat]
 obtain ⟨go,_,rfl,_,_,_,hcO⟩:=zER h.gr.op (by omega);obtain ⟨gn,curn,rfl,hgn,hgb,hgl0,hcN⟩:=zER h.gr.nd (by omega);have hOk:O[k]?=some i:=by rw [hO,List.getElem?_append_right (by omega),hk,Nat.sub_self];rfl
 have hc1:=hcO k _ (zMh hOk);have hc2:=hcN (i*6+5) _ (zOE hi');rw [hmv] at hc2;rw [hbl];have HHI:=hI hi';simp only [hn,hm] at h hb ⊢;obtain ⟨W0,hW0⟩:∃W0,w.alloc (.cells #[.int .u8 (b.n.kind:Int),.string b.x,.string b.y,.slice b.A b.n.attrs.length b.c,.string b.z,.int .i64 b.n.many] 42)=W0:=⟨_,rfl⟩;have HST:=hI h;have HB:=hI hb;have HL:Hid (n<=100000):=hI (by omega);have HBE:Hid (Below w.heap.size w W0):=hI (by rw [←hW0];exact stpA (Below.refl _ _) _);have HBX:Hid (W0.heap[w.heap.size]?=some (.cells #[.int .u8 (b.n.kind:Int),.string b.x,.string b.y,.slice b.A b.n.attrs.length b.c,.string b.z,.int .i64 b.n.many] 42 (0,0))):=hI (by rw [←hW0];exact heap_alloc_new _ _);have HS0:Hid (W0.heap.size=w.heap.size+1):=hI (by rw [←hW0,World.size_alloc]);have hg0:=zAB h.box HBE.out;have k0:=zAA W0 _ 0 _ _ _ hg0;have k1:=zAA W0 _ 1 _ _ _ hg0;have kO:W0.cell? ⟨go,k,none⟩=some (.int .i64 (i:Int)):=(zAq (HBE.out.block go (by have:=(h.gr.op.lt go rfl).2;omega))).trans hc1;have kM:W0.cell? ⟨gn,i*6+5,none⟩=some (.int .i64 mm):=(zAq (HBE.out.block gn hgl0)).trans hc2;have fM:W0.frozen? ⟨gn,i*6+5,none⟩=false:=zAZ W0 gn _ _ _ ((HBE.out.block gn hgl0).trans hgn);have HSTW:=hI (h.below HBE.out (Nat.le_refl _) (Nat.le_trans h.gr.sz HBE.out.size));have HSTD:=hI (HSTW.out.below (Below.refl W0.heap.size W0).drew (Nat.le_refl _) HSTW.out.gr.sz);have HGN:Hid (gn<w.heap.size):=hI hgl0;have bk:(0:Int)<=(k:Int)/\(k:Int)<=100000:=by omega
 have bi:(0:Int)<=(i:Int)/\(i:Int)<(n:Int)/\(n:Int)<=100000:=by omega
 have bmm:(0:Int)<=mm/\mm<=1000000:=hmm;have wmm:IntKind.i64.wrap (mm+1)=mm+1:=IntWalk.i64_in _ (by omega);have bkk:¬((k:Int)+1<=(k:Int)):=by omega
 have HNL:=hI hn;have HMV:=hI hmv;have HML:=hI hm;have HNB:Hid (some w.heap.size≠(Value.slice (some ⟨gn,0,none⟩) n cn).ownBlock):=hI λe=>by have:=(h.gr.nd.lt _ e.symm).2;omega
 clear h hb hl hl2 hi0 hz0 hz1 hz2 hg0 hO hOk hc1 hc2 hcO hcN hmm hbl hk hn hm hgn hgb hgl0 hmv
 go_enter func205,ntmps205
 go_wp2_with fail
 refine wp_region_noPanic ?_;refine zAN (λW=>W.cell? ⟨gs,0,none⟩=some (.slice (some ⟨gn,0,none⟩) n cn)/\W.cell? ⟨gs,1,none⟩=some (.slice (some ⟨go,0,none⟩) (k+1) co)/\W.cell? ⟨go,k,none⟩=some (.int .i64 (i:Int))/\W.cell? ⟨gn,i*6+5,none⟩=some (.int .i64 mm)) 17 (by kernel_rfl) ?_;have hS:W0.drew.cell? ⟨gs,0,none⟩=some (.slice (some ⟨gn,0,none⟩) n cn)/\W0.drew.cell? ⟨gs,1,none⟩=some (.slice (some ⟨go,0,none⟩) (k+1) co)/\W0.drew.cell? ⟨go,k,none⟩=some (.int .i64 (i:Int))/\W0.drew.cell? ⟨gn,i*6+5,none⟩=some (.int .i64 mm):=⟨k0,k1,kO,kM⟩;refine tkZ (i:=0) (v:=.pointer (some ⟨gs,0,none⟩)) rfl (Or.inl ⟨by rfl,?_⟩) hS ?_
 · intro w' hSw;(try dsimp only at hSw);go_simp
 try simp only [Act.put,sTA,sTB,sTC]
 refine tkZ (i:=1) (v:=.pointer (some ⟨gs,0,none⟩)) rfl (Or.inl ⟨by rfl,?_⟩) hS ?_
 · intro w' hSw;(try dsimp only at hSw);go_simp
 try simp only [Act.put,sTA,sTB,sTC]
 refine tkZ (i:=2) (v:=.pointer (some ⟨gs,0,none⟩)) rfl (Or.inl ⟨by rfl,?_⟩) hS ?_
 · intro w' hSw;(try dsimp only at hSw);go_simp
 try simp only [Act.put,sTA,sTB,sTC]
 refine tkZ (i:=3) (v:=.slice (some ⟨gn,0,none⟩) n cn) rfl (Or.inl ⟨by rfl,?_⟩) hS ?_
 · intro w' hSw;(try dsimp only at hSw);go_simp
 try simp only [Act.put,sTA,sTB,sTC]
 refine tkZ (i:=4) (v:=.pointer (some ⟨gs,0,none⟩)) rfl (Or.inl ⟨by rfl,?_⟩) hS ?_
 · intro w' hSw;(try dsimp only at hSw);go_simp
 try simp only [Act.put,sTA,sTB,sTC]
 refine tkZ (i:=5) (v:=.pointer (some ⟨gs,0,none⟩)) rfl (Or.inl ⟨by rfl,?_⟩) hS ?_
 · intro w' hSw;(try dsimp only at hSw);go_simp
 try simp only [Act.put,sTA,sTB,sTC]
 refine tkZ (i:=6) (v:=.pointer (some ⟨gs,1,none⟩)) rfl (Or.inl ⟨by rfl,?_⟩) hS ?_
 · intro w' hSw;(try dsimp only at hSw);go_simp
 try simp only [Act.put,sTA,sTB,sTC]
 refine tkZ (i:=7) (v:=.slice (some ⟨go,0,none⟩) (k+1) co) rfl (Or.inl ⟨by rfl,?_⟩) hS ?_
 · intro w' hSw;(try dsimp only at hSw);go_simp
 try simp only [Act.put,sTA,sTB,sTC]
 refine tkZ (i:=8) (v:=.int .i64 (k:Int)) rfl (Or.inl ⟨by rfl,?_⟩) hS ?_
 · intro w' hSw;(try dsimp only at hSw);go_simp
 try simp only [Act.put,sTA,sTB,sTC]
 refine tkZ (i:=9) (v:=.pointer (some ⟨go,k,none⟩)) rfl (Or.inl ⟨by rfl,?_⟩) hS ?_
 · intro w' hSw;(try dsimp only at hSw);go_simp
 try simp only [Act.put,sTA,sTB,sTC]
 refine tkZ (i:=10) (v:=.int .i64 (i:Int)) rfl (Or.inl ⟨by rfl,?_⟩) hS ?_
 · intro w' hSw;(try dsimp only at hSw);go_simp
 try simp only [Act.put,sTA,sTB,sTC]
 refine tkZ (i:=11) (v:=.pointer (some ⟨gn,i*6,none⟩)) rfl (Or.inl ⟨by rfl,?_⟩) hS ?_
 · intro w' hSw;(try dsimp only at hSw);go_simp
 try simp only [Act.put,sTA,sTB,sTC]
 refine tkZ (i:=12) (v:=.pointer (some ⟨gn,i*6+5,none⟩)) rfl (Or.inl ⟨by rfl,?_⟩) hS ?_
 · intro w' hSw;(try dsimp only at hSw);go_simp
 try simp only [Act.put,sTA,sTB,sTC]
 refine tkZ (i:=13) (v:=.int .i64 mm) rfl (Or.inl ⟨by rfl,?_⟩) hS ?_
 · intro w' hSw;(try dsimp only at hSw);go_simp
 try simp only [Act.put,sTA,sTB,sTC]
 refine tkZ (i:=14) (v:=.int .i64 (mm+1)) rfl (Or.inl ⟨by rfl,?_⟩) hS ?_
 · intro w' hSw;(try dsimp only at hSw);go_simp
 try simp only [Act.put,sTA,sTB,sTC]
 refine zAS (i:=15) (by kernel_rfl) rfl (λK hK=>?_)
 go_simp
 refine hK.out _ _ (λ_=>hS) (λ_=>?_);clear hK K
 try simp only [Act.put,sTA,sTB,sTC]
 refine tkZ (i:=16) (v:=.pointer (some ⟨gn,i*6+5,none⟩)) rfl (Or.inl ⟨by rfl,?_⟩) hS ?_
 · intro w' hSw;(try dsimp only at hSw);go_simp
 try simp only [Act.put,sTA,sTB,sTC]
 refine zAS (i:=17) (by kernel_rfl) rfl (λK hK=>?_)
 go_simp
 refine hK.out _ _ (λh=>absurd rfl h) (λ_=>?_);clear hK K
 try simp only [Act.put,sTA,sTB,sTC]
 refine zCU (by kernel_rfl) ?_ _;refine NoPanic.normal ?_;have hmod:=HSTD.out.bump (go:=go) HNL.out i HHI.out (by rw [HMV.out];exact bmm.2);rw [HMV.out] at hmod;rw [show W0.drew.setCell ⟨gn,i*6+5,none⟩ (.int .i64 (mm+1))=(W0.setCell ⟨gn,i*6+5,none⟩ (.int .i64 (mm+1))).drew from rfl] at hmod;obtain ⟨W1,hW1⟩:∃W1,(W0.setCell ⟨gn,i*6+5,none⟩ (.int .i64 (mm+1))).drew=W1:=⟨_,rfl⟩;have hbx1:W1.heap[w.heap.size]?=some (.cells #[.int .u8 (b.n.kind:Int),.string b.x,.string b.y,.slice b.A b.n.attrs.length b.c,.string b.z,.int .i64 b.n.many] 42 (0,0)):=by rw [←hW1];exact (heap_setCell_other _ _ _ _ (by have:=HGN.out;show w.heap.size≠gn;omega)).trans HBX.out
 rw [hW1] at hmod;rw [hW1];have HST1:=hI hmod.1;have HFR1:=hI hmod.2;have HBX1:=hI hbx1;have HLM:Hid ((L.modify i zEL).length=n):=hI (by rw [List.length_modify];exact HNL.out);clear hmod hbx1 hW1 k0 k1 kO kM fM HNL;have HNL:=HLM;have HOWN:Hid (W1.drew.ownsRow base 42 6 (.slice (some ⟨gn,0,none⟩) n cn) n ((L.modify i zEL).flatMap zAL)):=hI (by have:=zAF HST1.out.gr.nd (Below.refl W1.heap.size W1).drew (Nat.le_refl _);rw [HNL.out] at this;exact this);have HB9:Hid (NdIn b.n b.x b.y b.z b.A b.c W1.drew (λk=>base<=k/\k<hi/\some k≠(Value.slice (some ⟨gn,0,none⟩) n cn).ownBlock/\some k≠(Value.slice (some ⟨go,0,none⟩) (O1.length+1) co).ownBlock)):=hI (HB.out.keep (λ_ hk=>hk) λk o hk=>(zAq (HFR1.out.blk k (by have:=hk.2.1;have:=HST1.out.gr.sz;have:=HSTW.out.gr.sz;show k<W0.heap.size;omega) (by have:=hk.1;have:=HST1.out.lo;omega) hk.2.2.1 hk.2.2.2):W1.cell? ⟨k,o,none⟩=W0.drew.cell? ⟨k,o,none⟩).trans (zAq (HBE.out.block k (by have:=hk.2.1;have:=HST.out.gr.sz;omega))));have HSZ:Hid (base<=W1.drew.heap.size):=hI (by have:=HST1.out.gr.lo;have:=HST1.out.gr.sz;exact Nat.le_trans (by assumption) (by assumption));have k1:=zAA W1 _ 1 _ _ _ HST1.out.box
 go_wp2_with fail
 refine wp_region_noPanic ?_;refine zAN (λW=>W.cell? ⟨gs,0,none⟩=some (.slice (some ⟨gn,0,none⟩) n cn)/\W.cell? ⟨w.heap.size,0,none⟩=some (.int .u8 (b.n.kind:Int))/\W.cell? ⟨w.heap.size,1,none⟩=some (.string b.x)/\W.cell? ⟨w.heap.size,2,none⟩=some (.string b.y)/\W.cell? ⟨w.heap.size,3,none⟩=some (.slice b.A b.n.attrs.length b.c)/\W.cell? ⟨w.heap.size,4,none⟩=some (.string b.z)/\W.cell? ⟨w.heap.size,5,none⟩=some (.int .i64 b.n.many)) 10 (by kernel_rfl) ?_;have hS:W1.drew.cell? ⟨gs,0,none⟩=some (.slice (some ⟨gn,0,none⟩) n cn)/\W1.drew.cell? ⟨w.heap.size,0,none⟩=some (.int .u8 (b.n.kind:Int))/\W1.drew.cell? ⟨w.heap.size,1,none⟩=some (.string b.x)/\W1.drew.cell? ⟨w.heap.size,2,none⟩=some (.string b.y)/\W1.drew.cell? ⟨w.heap.size,3,none⟩=some (.slice b.A b.n.attrs.length b.c)/\W1.drew.cell? ⟨w.heap.size,4,none⟩=some (.string b.z)/\W1.drew.cell? ⟨w.heap.size,5,none⟩=some (.int .i64 b.n.many):=⟨zAA W1.drew _ 0 _ _ _ HST1.out.box,zAA W1.drew _ 0 _ _ _ HBX1.out,zAA W1.drew _ 1 _ _ _ HBX1.out,zAA W1.drew _ 2 _ _ _ HBX1.out,zAA W1.drew _ 3 _ _ _ HBX1.out,zAA W1.drew _ 4 _ _ _ HBX1.out,zAA W1.drew _ 5 _ _ _ HBX1.out⟩;refine tkZ (i:=0) (v:=.pointer (some ⟨gs,0,none⟩)) rfl (Or.inl ⟨by rfl,?_⟩) hS ?_
 · intro w' hSw;(try dsimp only at hSw);go_simp
 try simp only [Act.put,sTA,sTB,sTC]
 refine tkZ (i:=1) (v:=.pointer (some ⟨gs,0,none⟩)) rfl (Or.inl ⟨by rfl,?_⟩) hS ?_
 · intro w' hSw;(try dsimp only at hSw);go_simp
 try simp only [Act.put,sTA,sTB,sTC]
 refine tkZ (i:=2) (v:=.pointer (some ⟨gs,0,none⟩)) rfl (Or.inl ⟨by rfl,?_⟩) hS ?_
 · intro w' hSw;(try dsimp only at hSw);go_simp
 try simp only [Act.put,sTA,sTB,sTC]
 refine tkZ (i:=3) (v:=.pointer (some ⟨gs,0,none⟩)) rfl (Or.inl ⟨by rfl,?_⟩) hS ?_
 · intro w' hSw;(try dsimp only at hSw);go_simp
 try simp only [Act.put,sTA,sTB,sTC]
 refine tkZ (i:=4) (v:=.slice (some ⟨gn,0,none⟩) n cn) rfl (Or.inl ⟨by rfl,?_⟩) hS ?_
 · intro w' hSw;(try dsimp only at hSw);go_simp
 try simp only [Act.put,sTA,sTB,sTC]
 refine tkZ (i:=5) (v:=.agg #[.int .u8 (b.n.kind:Int),.string b.x,.string b.y,.slice b.A b.n.attrs.length b.c,.string b.z,.int .i64 b.n.many]) rfl (Or.inl ⟨by rfl,?_⟩) hS ?_
 · intro w' hSw;(try dsimp only at hSw);go_simp
 try simp only [Act.put,sTA,sTB,sTC]
 refine zAS (i:=6) (by kernel_rfl) rfl (λK hK=>?_)
 go_simp
 have HA1:=hI (zAB (a:=W1.drew) HST1.out.box (stpA (Below.refl W1.drew.heap.size W1.drew) (.cells #[.int .u8 (b.n.kind:Int),.string b.x,.string b.y,.slice b.A b.n.attrs.length b.c,.string b.z,.int .i64 b.n.many] 42)));have HA2:=hI (zAB (a:=W1.drew) HBX1.out (stpA (Below.refl W1.drew.heap.size W1.drew) (.cells #[.int .u8 (b.n.kind:Int),.string b.x,.string b.y,.slice b.A b.n.attrs.length b.c,.string b.z,.int .i64 b.n.many] 42)));have hS6:(W1.drew.alloc (.cells #[.int .u8 (b.n.kind:Int),.string b.x,.string b.y,.slice b.A b.n.attrs.length b.c,.string b.z,.int .i64 b.n.many] 42)).cell? ⟨gs,0,none⟩=some (.slice (some ⟨gn,0,none⟩) n cn)/\(W1.drew.alloc (.cells #[.int .u8 (b.n.kind:Int),.string b.x,.string b.y,.slice b.A b.n.attrs.length b.c,.string b.z,.int .i64 b.n.many] 42)).cell? ⟨w.heap.size,0,none⟩=some (.int .u8 (b.n.kind:Int))/\(W1.drew.alloc (.cells #[.int .u8 (b.n.kind:Int),.string b.x,.string b.y,.slice b.A b.n.attrs.length b.c,.string b.z,.int .i64 b.n.many] 42)).cell? ⟨w.heap.size,1,none⟩=some (.string b.x)/\(W1.drew.alloc (.cells #[.int .u8 (b.n.kind:Int),.string b.x,.string b.y,.slice b.A b.n.attrs.length b.c,.string b.z,.int .i64 b.n.many] 42)).cell? ⟨w.heap.size,2,none⟩=some (.string b.y)/\(W1.drew.alloc (.cells #[.int .u8 (b.n.kind:Int),.string b.x,.string b.y,.slice b.A b.n.attrs.length b.c,.string b.z,.int .i64 b.n.many] 42)).cell? ⟨w.heap.size,3,none⟩=some (.slice b.A b.n.attrs.length b.c)/\(W1.drew.alloc (.cells #[.int .u8 (b.n.kind:Int),.string b.x,.string b.y,.slice b.A b.n.attrs.length b.c,.string b.z,.int .i64 b.n.many] 42)).cell? ⟨w.heap.size,4,none⟩=some (.string b.z)/\(W1.drew.alloc (.cells #[.int .u8 (b.n.kind:Int),.string b.x,.string b.y,.slice b.A b.n.attrs.length b.c,.string b.z,.int .i64 b.n.many] 42)).cell? ⟨w.heap.size,5,none⟩=some (.int .i64 b.n.many):=⟨zAA (W1.drew.alloc (.cells #[.int .u8 (b.n.kind:Int),.string b.x,.string b.y,.slice b.A b.n.attrs.length b.c,.string b.z,.int .i64 b.n.many] 42)) _ 0 _ _ _ HA1.out,zAA (W1.drew.alloc (.cells #[.int .u8 (b.n.kind:Int),.string b.x,.string b.y,.slice b.A b.n.attrs.length b.c,.string b.z,.int .i64 b.n.many] 42)) _ 0 _ _ _ HA2.out,zAA (W1.drew.alloc (.cells #[.int .u8 (b.n.kind:Int),.string b.x,.string b.y,.slice b.A b.n.attrs.length b.c,.string b.z,.int .i64 b.n.many] 42)) _ 1 _ _ _ HA2.out,zAA (W1.drew.alloc (.cells #[.int .u8 (b.n.kind:Int),.string b.x,.string b.y,.slice b.A b.n.attrs.length b.c,.string b.z,.int .i64 b.n.many] 42)) _ 2 _ _ _ HA2.out,zAA (W1.drew.alloc (.cells #[.int .u8 (b.n.kind:Int),.string b.x,.string b.y,.slice b.A b.n.attrs.length b.c,.string b.z,.int .i64 b.n.many] 42)) _ 3 _ _ _ HA2.out,zAA (W1.drew.alloc (.cells #[.int .u8 (b.n.kind:Int),.string b.x,.string b.y,.slice b.A b.n.attrs.length b.c,.string b.z,.int .i64 b.n.many] 42)) _ 4 _ _ _ HA2.out,zAA (W1.drew.alloc (.cells #[.int .u8 (b.n.kind:Int),.string b.x,.string b.y,.slice b.A b.n.attrs.length b.c,.string b.z,.int .i64 b.n.many] 42)) _ 5 _ _ _ HA2.out⟩;refine hK.out _ _ (λ_=>hS6) (λ_=>?_);clear hK K hS
 try simp only [Act.put,sTA,sTB,sTC]
 refine zAS (i:=7) (by kernel_rfl) rfl (λK hK=>?_);refine step_append_lies _ rfl (.tmp 34) (.tmp 36) 22 rfl base 42 i0 (.agg #[.int .u8 0,.string ⟨#[]⟩,.string ⟨#[]⟩,.slice none 0 0,.string ⟨#[]⟩,.int .i64 0]) 6 88 underlying22 HI.out HZ0.out HZ1.out HZ2.out rfl (by decide) _ n _ rfl (zAF HOWN.out (stpA (Below.refl _ _) _) (Nat.le_refl _)) ⟨W1.heap.size,0,none⟩ 1 1 [.int .u8 (b.n.kind:Int),.string b.x,.string b.y,.slice b.A b.n.attrs.length b.c,.string b.z,.int .i64 b.n.many] rfl rfl (zAp W1.drew [.int .u8 (b.n.kind:Int),.string b.x,.string b.y,.slice b.A b.n.attrs.length b.c,.string b.z,.int .i64 b.n.many] 42 _ rfl) (by simp [Value.oneCell']) (by decide) (by have:=HL.out;unfold maxLen;omega) (by have:=HL.out;omega) (by have:=HSZ.out;show base<=(World.alloc W1 _).heap.size;rw [World.size_alloc];exact Nat.le_succ_of_le this) (W1.heap.size+1) (by show (World.alloc W1 _).heap.size=_;rw [World.size_alloc]) ?_;intro g8 c8 w8 hown8 hgr8 hor hlt8;have hpush:=(HST1.out.below (Below.refl W1.heap.size W1).drew (Nat.le_refl _) (HST1.out.gr.sz)).pushN (b:=b) HNL.out HB9.out hown8 hgr8 hor;have HP8:=hI hpush.1;have HF8:=hI hpush.2
 have st8:∀(q:Nat) (o:Obj),W1.heap[q]?=some o->some q≠(Value.slice (some ⟨gn,0,none⟩) n cn).ownBlock->w8.heap[q]?=some o:=λq o ho hne=>by
  have h1:=zAB (a:=W1.drew) ho (stpA (Below.refl W1.drew.heap.size W1.drew) (.cells #[.int .u8 (b.n.kind:Int),.string b.x,.string b.y,.slice b.A b.n.attrs.length b.c,.string b.z,.int .i64 b.n.many] 42));exact (hgr8.block _ (Array.getElem?_eq_some_iff.1 h1).1 hne).trans h1
 have hgl:=st8 gs _ HST1.out.box (λe=>by have:=(HST1.out.gr.nd.lt _ e.symm).1;have:=HST1.out.lo;omega);have hbx:=st8 w.heap.size _ HBX1.out (λe=>HNB.out e);have k8:w8.cell? ⟨gs,0,none⟩=some (.slice (some ⟨gn,0,none⟩) n cn)/\w8.cell? ⟨w.heap.size,0,none⟩=some (.int .u8 (b.n.kind:Int))/\w8.cell? ⟨w.heap.size,1,none⟩=some (.string b.x)/\w8.cell? ⟨w.heap.size,2,none⟩=some (.string b.y)/\w8.cell? ⟨w.heap.size,3,none⟩=some (.slice b.A b.n.attrs.length b.c)/\w8.cell? ⟨w.heap.size,4,none⟩=some (.string b.z)/\w8.cell? ⟨w.heap.size,5,none⟩=some (.int .i64 b.n.many):=⟨zAA w8 _ 0 _ _ _ hgl,zAA w8 _ 0 _ _ _ hbx,zAA w8 _ 1 _ _ _ hbx,zAA w8 _ 2 _ _ _ hbx,zAA w8 _ 3 _ _ _ hbx,zAA w8 _ 4 _ _ _ hbx,zAA w8 _ 5 _ _ _ hbx⟩;have f8:w8.frozen? ⟨gs,0,none⟩=false:=zAZ w8 _ 0 _ _ hgl;have k81:=k8.1;clear hown8 hgr8 hor hgl hbx st8 hpush;refine hK.out _ _ (λ_=>k8) (λ_=>?_);clear hK K
 try simp only [Act.put,sTA,sTB,sTC]
 refine zAS (i:=8) (by kernel_rfl) rfl (λK hK=>?_)
 go_simp
 refine hK.out _ _ (λ_=>k8) (λ_=>?_);clear hK K
 try simp only [Act.put,sTA,sTB,sTC]
 refine tkZ (i:=9) (v:=.pointer (some ⟨gs,0,none⟩)) rfl (Or.inl ⟨by rfl,?_⟩) k8 ?_
 · intro w' hSw;(try dsimp only at hSw);go_simp
 try simp only [Act.put,sTA,sTB,sTC]
 refine zAS (i:=10) (by kernel_rfl) rfl (λK hK=>?_)
 go_simp
 refine hK.out _ _ (λh=>absurd rfl h) (λ_=>?_);clear hK K
 try simp only [Act.put,sTA,sTB,sTC]
 refine zCU (by kernel_rfl) ?_ _;refine NoPanic.normal ?_
 go_wp2_with fail
 (try simp only [Exit.inBlock,Exit.then,Exit.noGoto])
 go_end0
 exact ⟨rfl,_,HP8.out,(((FrP.below HBE.out (by have:=HST.out.gr.sz;have:=HST.out.gr.lo;have:=HST.out.lo;omega)).trans (FrP.below (Below.refl _ _).drew (by have:=HSTW.out.gr.sz;have:=HSTW.out.gr.lo;have:=HSTW.out.lo;omega))).trans HFR1.out).trans ((FrP.below (Below.refl _ _).drew (by have:=HST1.out.gr.sz;have:=HST1.out.gr.lo;have:=HST1.out.lo;omega)).trans HF8.out)⟩
theorem zMY (B gs base hi:Nat) (L:List NB) (O:List Nat) (bb:Bool) (Vn Vo:Value) (b:NB) (w:World) (h:zA8 B gs base hi L O bb Vn Vo w) (hb:NdIn b.n b.x b.y b.z b.A b.c w (λk=>base<=k/\k<hi/\some k≠Vn.ownBlock/\some k≠Vo.ownBlock)) (hl:L.length<=100000) (hl2:O.length<=100000) (hO:∀i∈O,i<L.length) (hM:∀b∈L,0<=b.n.many/\b.n.many<=1000000) :
 Calls prog 205 #[.pointer (some ⟨gs,0,none⟩),.agg #[.int .u8 (b.n.kind:Int),.string b.x,.string b.y,.slice b.A b.n.attrs.length b.c,.string b.z,.int .i64 b.n.many]] w λe w'=>e=.returned (.tuple #[])/\∃Vn',zA8 B gs base hi (zDG O L++[b]) O bb Vn' Vo w'∧FrP B gs Vn Vo w Vn' Vo w':=by
 rcases List.eq_nil_or_concat O with h0 | ⟨O1,i,h0⟩
 · exact zIr B gs base hi L O bb Vn Vo b w h hb hl hl2 h0
 · exact zIu B gs base hi L O bb Vn Vo b w h hb hl hl2 O1 i (by rw [h0,List.concat_eq_append]) (hO i (by rw [h0];simp)) (hM _ (List.getElem_mem _))
theorem zEY (w:World) (q:Nat):Below w.heap.size w (w.drewN q):=⟨rfl,(Below.refl w.heap.size w).drew.tape,rfl,Nat.le_refl _,λ_ _=>rfl⟩
theorem zPs {a b:ByteArray} (h:¬a=b):(a.toList==b.toList)=false:=beq_eq_false_iff_ne.2 λe=>h (by rw [Lib.toList_data,Lib.toList_data] at e;rw [zB4 a,zB4 b,e])
theorem zMm {x:ByteArray} (h:¬x=⟨#[]⟩):x.toList.isEmpty=false:=by
 rw [Lib.toList_data]
 cases hx:x.data.toList with
 | nil=>exact absurd (by rw [zB4 x,hx]) h
 | cons _ _=>rfl
theorem zA8.shutO {B gs base hi c m k:Nat} {L:List NB} {O:List Nat} {bb:Bool} {Vn:Value} {A:Option Addr} {wr:World} (h:zA8 B gs base hi L O bb Vn (.slice A m c) wr) (hm:O.length=m) (hk:k+1=m) :
 zA8 B gs base hi L O.dropLast bb Vn (.slice A k c) (wr.setCell ⟨gs,1,none⟩ (.slice A k c))/\Below B wr (wr.setCell ⟨gs,1,none⟩ (.slice A k c)):=by
 have hlo:=h.lo;have hbz:=h.gr.lo;have hsz:=h.gr.sz;exact ⟨⟨heap_setCell_same wr gs 1 _ _ _ h.box,(h.gr.shut hm hk).keep (λq hq _=>heap_setCell_other _ _ _ _ (by show q≠gs;omega)) (Nat.le_refl _) (by simp [World.setCell];omega),h.lo⟩,(Below.refl B wr).setCell (p:=⟨gs,1,none⟩) hlo.1 _⟩
theorem zG4 (B gs base hi:Nat) (L:List NB) (O:List Nat) (bb:Bool) (Vn Vo:Value) (u:ByteArray) (w:World) (h:zA8 B gs base hi L O bb Vn Vo w) (hl:L.length<=100000) (hl2:O.length<=100000) (hO:O=[]) :
 Calls prog 177 #[.pointer (some ⟨gs,0,none⟩),.string u] w λe w'=>e=.returned (.int .i64 80)/\Below w.heap.size w w':=by
 obtain ⟨Ao,co,rfl⟩:=zAD h.gr.op;subst hO;have k0:=zAA w _ 0 _ _ _ h.box;have k1:w.cell? ⟨gs,1,none⟩=some (.slice Ao 0 co):=zAA w _ 1 _ _ _ h.box;clear h hl hl2
 go_enter func177,ntmps177
 go_wp2_with fail
 go_quiet (fail)
 go_wp2_with fail
 go_ret
 exact ⟨rfl,zEY _ _⟩
theorem zHB (B gs base hi:Nat) (L:List NB) (O:List Nat) (bb:Bool) (Vn Vo:Value) (u:ByteArray) (w:World) (h:zA8 B gs base hi L O bb Vn Vo w) (hl:L.length<=100000) (hl2:O.length<=100000) (O1:List Nat) (i:Nat) (hO:O=O1++[i]) (hi':i<L.length) (q:Bool) (hq:decide ((L[i]'hi').y=u)=q) :
 Calls prog 177 #[.pointer (some ⟨gs,0,none⟩),.string u] w λe w'=>if q=true then e=.returned (.int .i64 0)/\Below B w w'∧∃Vo',zA8 B gs base hi L O.dropLast bb Vn Vo' w' else e=.returned (.int .i64 80)/\Below w.heap.size w w':=by
 obtain ⟨Ao,co,rfl⟩:=zAD h.gr.op;obtain ⟨An,cn,rfl⟩:=zAD h.gr.nd;obtain ⟨n,hn⟩:∃n,L.length=n:=⟨_,rfl⟩;obtain ⟨m,hm⟩:∃m,O.length=m:=⟨_,rfl⟩;obtain ⟨k,hk⟩:∃k,O1.length=k:=⟨_,rfl⟩;have hmk:m=k+1:=by rw [←hm,hO,List.length_append,hk];rfl
 subst hmk;obtain ⟨yy,hyv⟩:∃yy,(L[i]'hi').y=yy:=⟨_,rfl⟩;obtain ⟨go,_,rfl,_,_,_,hcO⟩:=zER h.gr.op (by omega);obtain ⟨gn,curn,rfl,hgn,hgb,hgl0,hcN⟩:=zER h.gr.nd (by omega);have hOk:O[k]?=some i:=by rw [hO,List.getElem?_append_right (by omega),hk,Nat.sub_self];rfl
 have kO:=hcO k _ (zMh hOk);have kY:=hcN (i*6+2) _ (zOu hi');rw [hyv] at kY hq;simp only [hn,hm] at h;have hg0:=h.box;have k0:=zAA w _ 0 _ _ _ hg0;have k1:=zAA w _ 1 _ _ _ hg0;have f1:=zAZ w gs 1 _ _ hg0;have bk:(0:Int)<=(k:Int)/\(k:Int)<=100000:=by omega
 have bi:(0:Int)<=(i:Int)/\(i:Int)<(n:Int)/\(n:Int)<=100000:=by omega
 have bkk:¬((k:Int)+1<=(k:Int)):=by omega
 have bco:(k:Int)<=(co:Int):=by
  rcases h.gr.op.2 with ⟨e0,_⟩ | ⟨g',cap,cur,hv,_,_,h1,_⟩
  · cases e0
  · injection hv with _ _ e3
    omega
 have HST:=hI h;have HM:=hI hm;have HN:=hI hn;clear h hl hl2 hO hi' hcO hcN hgn hgb hgl0 hyv hn hm hk hOk
 cases q with
 | true =>
  have hyu:yy=u:=of_decide_eq_true hq;subst hyu;clear hq
  go_enter func177,ntmps177
  go_wp2_with fail
  go_quiet (fail)
  go_wp2_with fail
  go_ret
  have hs:=(HST.out.below (zEY w nq) (Nat.le_refl _) HST.out.gr.sz).shutO HM.out rfl;rw [HN.out];exact ⟨rfl,(Below.mono (zEY w nq) (by have:=HST.out.lo;have:=HST.out.gr.lo;have:=HST.out.gr.sz;omega)).trans hs.2,_,hs.1⟩
 | false =>
  have hyu:¬yy=u:=of_decide_eq_false hq;have hyt:=zPs hyu;clear hq
  go_enter func177,ntmps177
  go_wp2_with fail
  go_quiet (fail)
  go_wp2_with fail
  go_ret
  exact ⟨rfl,zEY _ _⟩
theorem zHT {α:Type} (p:α->Bool):∀l:List α,(∀x∈l.dropWhile p,p x=true)->l.dropWhile p=[]
 | [],_=>rfl
 | a::l,h=>by
  by_cases hp:p a=true
  · rw [List.dropWhile_cons_of_pos hp] at h ⊢
    exact zHT p l h
  · rw [List.dropWhile_cons_of_neg hp] at h
    exact absurd (h a List.mem_cons_self) hp
theorem zDX {α:Type} (p:α->Bool):∀l:List α,l.dropWhile p=[]↔∀x∈l,p x=true
 | []=>by simp
 | a::l=>by
  by_cases hp:p a=true
  · rw [List.dropWhile_cons_of_pos hp,zDX p l]
    simp [hp]
  · rw [List.dropWhile_cons_of_neg hp]
    simp [hp]
theorem zGu (l:List UInt8):Lib.trimS l [32,9,10,13]=[]↔l.all blk=true:=by
 have hc:∀x:UInt8,List.contains [32,9,10,13] x=blk x:=λx=>by
  unfold blk
  simp [List.contains,List.elem,Bool.or_assoc]
  rcases (x==32),(x==9),(x==10),(x==13) with ⟨_ | _,_ | _,_ | _,_ | _⟩ <;> rfl
 unfold Lib.trimS Lib.trimLeftS Lib.trimRightS;rw [List.all_eq_true]
 constructor
 · intro h x hx
   have h1:∀x∈l.reverse.dropWhile (List.contains [32,9,10,13] ·),List.contains [32,9,10,13] x=true:=λx hx=>(zDX _ _).1 h x (List.mem_reverse.2 hx)
   have h2:=zHT _ _ h1;rw [←hc];exact (zDX _ _).1 h2 x (List.mem_reverse.2 hx)
 · intro h
   have h2:l.reverse.dropWhile (List.contains [32,9,10,13] ·)=[]:=(zDX _ _).2 λx hx=>by rw [hc];exact h x (List.mem_reverse.1 hx)
   rw [h2]
   rfl
theorem zR6 (u:ByteArray) (w:World) (hu:u.size<=1000000):Calls prog 206 #[.string u,.string ⟨#[32,9,10,13]⟩] w λe w'=>∃x:ByteArray,e=.returned (.string x)/\Below w.heap.size w w'∧(u.data.toList.all blk=true->x=⟨#[]⟩)/\(u.data.toList.all blk=false->¬x=⟨#[]⟩) :=
 (Any.strings_Trim_laid Tryz.lays160 (by kernel_rfl) u ⟨#[32,9,10,13]⟩ w (by omega) (by decide) (ascii_of_all (by decide))).mono λe w' h=>⟨_,h.1,h.2,λhq=>by rw [(zGu _).2 hq],λhq e=>by
  have:Lib.trimS u.data.toList [32,9,10,13]=[]:=by
   have:=congrArg (λb:ByteArray=>b.data.toList) e
   simpa using this
  rw [(zGu _).1 this] at hq
  cases hq⟩
theorem zFz (B gs base hi:Nat) (L:List NB) (O:List Nat) (bb:Bool) (Vn Vo:Value) (u:ByteArray) (w:World) (h:zA8 B gs base hi L O bb Vn Vo w) (hl:L.length<=100000) (hl2:O.length<=100000) (hO:O=[]) (hu:u.size<=1000000) (q:Bool) (hq:u.data.toList.all blk=q) (r:Int) (hr:r=if q=true then 0 else 80) :
 Calls prog 179 #[.pointer (some ⟨gs,0,none⟩),.string u] w λe w'=>e=.returned (.int .i64 r)/\Below w.heap.size w w':=by
 obtain ⟨Ao,co,rfl⟩:=zAD h.gr.op;subst hO;have k1:w.cell? ⟨gs,1,none⟩=some (.slice Ao 0 co):=zAA w _ 1 _ _ _ h.box;have HT:=hI (zR6 u w hu);clear h hl hl2
 cases q with
 | true =>
  obtain rfl:r=0:=hr;have HQ:=hI hq;clear hq
  go_enter func179,ntmps179
  go_wp2_with (first
   | (go_at_call 206;(with_reducible refine (HT.out).mono ?_);rintro e1 w1 ⟨x,rfl,hb1,hx1,hx2⟩;obtain rfl:=hx1 HQ.out;clear hx1 hx2)
   | fail)
  go_ret
  exact ⟨rfl,hb1⟩
 | false =>
  obtain rfl:r=80:=hr;have HQ:=hI hq;clear hq
  go_enter func179,ntmps179
  go_wp2_with (first
   | (go_at_call 206;(with_reducible refine (HT.out).mono ?_);rintro e1 w1 ⟨x,rfl,hb1,hx1,hx2⟩;have hx:=zMm (hx2 HQ.out);clear hx1 hx2)
   | fail)
  go_ret
  exact ⟨rfl,hb1⟩
theorem zF0 (B gs base hi:Nat) (L:List NB) (O:List Nat) (bb:Bool) (Vn Vo:Value) (u:ByteArray) (w:World) (h:zA8 B gs base hi L O bb Vn Vo w) (hl:L.length<=100000) (hl2:O.length<=100000) (hO0:O≠[]) (hu:u.size<=1000000) (hO:∀i∈O,i<L.length) (hM:∀b∈L,0<=b.n.many/\b.n.many<=1000000) :
 Calls prog 179 #[.pointer (some ⟨gs,0,none⟩),.string u] w λe w'=>e=.returned (.int .i64 0)/\Below B w w'∧∃Vn',zA8 B gs base hi (zDG O L++[(⟨⟨2,[],[],[],u.data.toList,0⟩,⟨#[]⟩,⟨#[]⟩,u,none,0⟩:NB)]) O bb Vn' Vo w':=by
 have HPT:Hid (∀W,Below w.heap.size w W->Calls prog 205 #[.pointer (some ⟨gs,0,none⟩),.agg #[.int .u8 2,.string ⟨#[]⟩,.string ⟨#[]⟩,.slice none 0 0,.string u,.int .i64 0]] W λe w'=>e=.returned (.tuple #[])/\∃Vn',zA8 B gs base hi (zDG O L++[(⟨⟨2,[],[],[],u.data.toList,0⟩,⟨#[]⟩,⟨#[]⟩,u,none,0⟩:NB)]) O bb Vn' Vo w'∧FrP B gs Vn Vo W Vn' Vo w'):=hI λW hW=>zMY B gs base hi L O bb Vn Vo (⟨⟨2,[],[],[],u.data.toList,0⟩,⟨#[]⟩,⟨#[]⟩,u,none,0⟩:NB) W (h.below hW (Nat.le_refl _) (Nat.le_trans h.gr.sz hW.size)) ⟨rfl,rfl,rfl,RdS.nil _ _ _,Nat.le_refl _,Nat.zero_le _,λ_=>rfl,(by show 2<256;decide),(by show (-9223372036854775808:Int)<=0;decide),(by show (0:Int)<=9223372036854775807;decide)⟩ hl hl2 hO hM
 have HBW:Hid (∀W,Below w.heap.size w W->Below B w W):=hI λW hW=>hW.mono (by have:=h.lo;have:=h.gr.lo;have:=h.gr.sz;omega)
 obtain ⟨Ao,co,rfl⟩:=zAD h.gr.op;obtain ⟨m,hm⟩:∃m,O.length=m:=⟨_,rfl⟩;have k1:=zAA w _ 1 _ _ _ h.box;rw [hm] at k1
 have bm:(0:Int)<(m:Int):=by
  have:=List.length_pos_iff.2 hO0
  omega
 have HU:=hI hu;clear h hl hl2 hO hM hO0 hu
 go_enter func179,ntmps179
 go_wp2_with (first
  | (go_at_call 87;(with_reducible refine (zBk u _ HU.out).mono ?_);rintro e1 w1 ⟨rfl,hb1⟩;have HB1:=hI hb1;clear hb1)
  | (go_at_call 205;(with_reducible refine (HPT.out _ HB1.out).mono ?_);rintro e2 w2 ⟨rfl,Vn',hs2,hf2⟩;have HS2:=hI hs2;have HF2:=hI hf2;clear hs2 hf2)
  | fail)
 go_ret
 rw [←hm] at *;exact ⟨rfl,(HBW.out _ HB1.out).trans HF2.out.bel,_,HS2.out⟩
theorem zA8.openO {B gs base hi m c:Nat} {L:List NB} {O:List Nat} {bb:Bool} {A:Option Addr} {Vn:Value} {W:World} {i:Nat} {g8 c8:Nat} {w8:World} {ob:Obj} (h:zA8 B gs base hi L O bb Vn (.slice A m c) W) (hm:O.length=m)
 (hown8:w8.ownsRow base 3 1 (.slice (some ⟨g8,0,none⟩) (m+1) c8) (m+1) ((zs O).map encZ++[.int .i64 i]))
 (hgr:(W.alloc ob).grownBy w8 (Value.slice A m c).ownBlock) (hor:(Value.slice A m c).ownBlock=some g8∨g8=W.heap.size+1) :
 zA8 B gs base hi L (O++[i]) bb Vn (.slice (some ⟨g8,0,none⟩) (m+1) c8) (w8.setCell ⟨gs,1,none⟩ (.slice (some ⟨g8,0,none⟩) (m+1) c8))/\Below B W (w8.setCell ⟨gs,1,none⟩ (.slice (some ⟨g8,0,none⟩) (m+1) c8)):=by
 subst hm;have hlo:=h.lo;have hbz:=h.gr.lo;have hsz:=h.gr.sz;have ha:Below W.heap.size W (W.alloc ob):=stpA (Below.refl _ _) _;have h2:=h.below ha (Nat.le_refl _) (by rw [World.size_alloc];omega);have hgs:some gs≠(Value.slice A O.length c).ownBlock:=λe=>by have:=(h.gr.op.lt gs e.symm).1;omega
 have hp:=h2.gr.open i hown8 hgr (by
  rcases hor with e | e
  · exact .inl e.symm
  · refine .inr ⟨g8,by omega,rfl,λe2=>?_⟩
    have:=(h.gr.nd.lt g8 e2).2
    omega)
 have hs8:=hgr.size;rw [World.size_alloc] at hs8;have hoth:∀q,q≠gs->(w8.setCell ⟨gs,1,none⟩ (.slice (some ⟨g8,0,none⟩) (O.length+1) c8)).heap[q]?=w8.heap[q]?:=λq hq=>heap_setCell_other _ _ _ _ hq
 have hbox:w8.heap[gs]?=some (.cells #[Vn,.slice A O.length c,.bool bb] 180 (0,0)):=(hgr.block gs (by have:=zB7 h2.box;omega) hgs).trans h2.box;refine ⟨⟨heap_setCell_same w8 gs 1 _ _ _ hbox,hp.keep (λq hq _=>hoth q (by omega)) (Nat.le_refl _) (by simp [World.setCell];omega),h.lo⟩,?_⟩;exact (((Below.refl B W).alloc (by omega) ob).grown hgr (by rw [World.size_alloc];omega) (λq hq=>by have:=(h.gr.op.lt q hq).1;omega)).setCell (p:=⟨gs,1,none⟩) hlo.1 _
theorem zA8.far {B gs base hi hi':Nat} {L:List NB} {O:List Nat} {bb:Bool} {Vn Vo:Value} {w w':World} (h:zA8 B gs base hi L O bb Vn Vo w) (hk:∀q,q<w.heap.size->w'.heap[q]?=w.heap[q]?) (h1:hi<=hi') (h2:hi'≤w'.heap.size):zA8 B gs base hi' L O bb Vn Vo w' :=
 ⟨(hk gs (zB7 h.box)).trans h.box,h.gr.keep (λq _ hq=>hk q (by
  rcases hq with hq | hq | hq
  · exact Nat.lt_of_lt_of_le hq h.gr.sz
  · exact (h.gr.nd.lt q hq).2
  · exact (h.gr.op.lt q hq).2)) h1 h2,h.lo⟩
theorem zPo {w:World} {B:Nat} {A:Option Addr} {l:List Pr} {k:Nat} (hr:RdC PrC w B A l) (hk:k<l.length):∃(b off:Nat) (s v:ByteArray),A=some ⟨b,off,none⟩/\b<B/\w.cell? ⟨b,off+k*2,none⟩=some (.string s)/\w.cell? ⟨b,off+k*2+1,none⟩=some (.string v)/\s.data.toList=(l[k]'hk).name/\v.data.toList=(l[k]'hk).value:=by
 obtain ⟨b,off,e,hb,hc⟩:=hr (by omega);obtain ⟨cs,⟨s,v,rfl,h1,h2⟩,hcell⟩:=hc k hk;exact ⟨b,off,s,v,e,hb,hcell 0 (by simp),hcell 1 (by simp),h1,h2⟩
theorem zA8.above {B gs base hi:Nat} {L:List NB} {O:List Nat} {bb:Bool} {Vn Vo:Value} {w:World} (h:zA8 B gs base hi L O bb Vn Vo w):B<=w.heap.size/\gs<w.heap.size/\base<=w.heap.size/\(∀q,Vn.ownBlock=some q->base<=q/\q<w.heap.size)/\∀q,Vo.ownBlock=some q->base<=q/\q<w.heap.size:=by
 have h1:=h.lo;have h2:=h.gr.lo;have h3:=h.gr.sz;exact ⟨by omega,by omega,by omega,h.gr.nd.lt,h.gr.op.lt⟩
structure zEO (base2 bn:Nat) (x:ByteArray) (ps:List Pr) (j:Nat) (V:Value) (W1 wr:World):Prop where
 box:wr.heap[bn]?=some (.cells #[.int .u8 1,.string ⟨#[]⟩,.string x,V,.string ⟨#[]⟩,.int .i64 0] 42 (0,0))
 own:wr.ownsRow base2 44 3 V j (((zAm (ps.take j)).map abOf).flatMap zAi)
 oth:∀k,k<base2->k≠bn->wr.heap[k]?=W1.heap[k]?
 lt:bn<base2/\base2<=W1.heap.size
 bel:Below bn W1 wr
theorem zEO.below {base2 bn:Nat} {x:ByteArray} {ps:List Pr} {j:Nat} {V:Value} {W1 wr w':World} (h:zEO base2 bn x ps j V W1 wr) (hb:Below wr.heap.size wr w'):zEO base2 bn x ps j V W1 w' :=
 ⟨zAB h.box hb,zAF h.own hb (Nat.le_refl _),λk hk hne=>(hb.block k (by have:=h.lt.2;have:=h.bel.size;omega)).trans (h.oth k hk hne),h.lt,h.bel.trans (hb.mono (by have:=h.lt;have:=h.bel.size;omega))⟩
theorem zEO.push {base2 bn j c:Nat} {x:ByteArray} {ps:List Pr} {A:Option Addr} {W1 wr:World} {s v:ByteArray} {g8 c8:Nat} {w8:World} {ob:Obj} (h:zEO base2 bn x ps j (.slice A j c) W1 wr) (hj:j<ps.length) (hs:s.data.toList=(ps[j]'hj).name) (hv:v.data.toList=(ps[j]'hj).value)
 (hown8:w8.ownsRow base2 44 3 (.slice (some ⟨g8,0,none⟩) (j+1) c8) (j+1) (((zAm (ps.take j)).map abOf).flatMap zAi++[.string ⟨#[]⟩,.string s,.string v]))
 (hgr:(wr.alloc ob).grownBy w8 (Value.slice A j c).ownBlock):zEO base2 bn x ps (j+1) (.slice (some ⟨g8,0,none⟩) (j+1) c8) W1 (w8.setCell ⟨bn,3,none⟩ (.slice (some ⟨g8,0,none⟩) (j+1) c8)):=by
 have hlt:=h.lt;have hsz:=h.bel.size;have ha:Below wr.heap.size wr (wr.alloc ob):=stpA (Below.refl _ _) _;have hlo:∀q,(Value.slice A j c).ownBlock=some q->base2<=q:=λq hq=>(h.own.lt q hq).1
 have hs8:=hgr.size;rw [World.size_alloc] at hs8;have hoth:∀q,q≠bn->(w8.setCell ⟨bn,3,none⟩ (.slice (some ⟨g8,0,none⟩) (j+1) c8)).heap[q]?=w8.heap[q]?:=λq hq=>heap_setCell_other _ _ _ _ hq
 have hst:∀q,q<base2->w8.heap[q]?=wr.heap[q]?:=λq hq=>(hgr.block q (by rw [World.size_alloc];omega) (λe=>by have:=hlo q e.symm;omega)).trans (ha.block q (by omega))
 refine ⟨heap_setCell_same w8 bn 3 _ _ _ ((hst bn hlt.1).trans h.box),?_,λk hk hne=>(hoth k hne).trans ((hst k hk).trans (h.oth k hk hne)),h.lt,?_⟩
 · refine zCZ (w:=w8) ?_ λq hq=>hoth q (by have:=(hown8.lt q hq).1;omega)
   rw [List.take_succ_eq_append_getElem hj];have e1:s=⟨(ps[j]'hj).name.toArray⟩:=ba_x (by rw [hs]);have e2:v=⟨(ps[j]'hj).value.toArray⟩:=ba_x (by rw [hv])
   have e:((zAm (ps.take j++[ps[j]'hj])).map abOf).flatMap zAi=((zAm (ps.take j)).map abOf).flatMap zAi++[.string ⟨#[]⟩,.string s,.string v]:=by
    rw [e1,e2];unfold zAm;rw [List.map_append,List.map_append,List.flatMap_append]
    rfl
   rw [e];exact hown8
 · exact ((h.bel.alloc (by omega) ob).grown hgr (by rw [World.size_alloc];omega) (λq hq=>by have:=hlo q hq;omega)).setCell (p:=⟨bn,3,none⟩) (Nat.le_refl _) _
theorem zEO.node {bn:Nat} {x:ByteArray} {ps:List Pr} {na c:Nat} {A:Option Addr} {W1 wr:World} {nm:List UInt8} {S:Nat->Prop} (h:zEO (bn+1) bn x ps na (.slice A na c) W1 wr) (hn:ps.length=na) (hx:x.data.toList=nm) (hS:∀q,bn+1<=q->q<wr.heap.size->S q):NdIn ⟨1,[],nm,zAm ps,[],0⟩ ⟨#[]⟩ x ⟨#[]⟩ A c wr S:=by
 have ho:=h.own;rw [←hn,List.take_length,hn] at ho;obtain ⟨r1,r2,r3,r4,r5⟩:=RdS.of_own (C:=AtS) (S:=S) zAi zAg (λ_=>rfl) (by decide) _ (λb _=>ab_R wr S b) (λg hg=>hS g (ho.lt g hg).1 (ho.lt g hg).2) ho;rw [zJq] at r1;have hl:(zAm ps).length=na:=by unfold zAm;rw [List.length_map,hn]
 exact ⟨rfl,hx,rfl,r1,by show (zAm ps).length<=c;omega,r4,r5,by show 1<256;decide,by show (-9223372036854775808:Int)<=0;decide,by show (0:Int)<=9223372036854775807;decide⟩
def zP0 (B gs base:Nat) (L:List NB) (O:List Nat) (bb:Bool) (t:Tk) (w':World):Prop:=∃(hi2:Nat) (b:NB) (Vn2 Vo2:Value),b.n=zAu t/\zA8 B gs base hi2 (zDG O L++[b]) (if t.kind=3 then O else O++[L.length]) bb Vn2 Vo2 w'
theorem zGN:(prog.info? 42).map (·.size)=some 6:=by kernel_rfl
theorem zHm (B gs base hi:Nat) (L:List NB) (O:List Nat) (bb:Bool) (Vn Vo:Value) (t:Tk) (x u:ByteArray) (A:Option Addr) (cp:Nat) (w:World) (h:zA8 B gs base hi L O bb Vn Vo w) (ht:TkAt t x u A cp w) (hO:O=[]) (hL:L≠[]) (hl:L.length<=100000) :
 Calls prog 178 #[.pointer (some ⟨gs,0,none⟩),TkV t x u A cp] w λe w'=>e=.returned (.int .i64 80)/\Below w.heap.size w w':=by
 obtain ⟨Ao,co,rfl⟩:=zAD h.gr.op;obtain ⟨An,cn,rfl⟩:=zAD h.gr.nd;subst hO;obtain ⟨n,hn⟩:∃n,L.length=n:=⟨_,rfl⟩;have bn:(0:Int)<(n:Int):=by have:=List.length_pos_iff.2 hL;omega
 unfold TkV;have HBA:Hid (∀o,Below w.heap.size w (w.alloc o)):=hI λo=>stpA (Below.refl _ _) o
 have HBX:Hid (∀o,(w.alloc o).heap[gs]?=some (.cells #[.slice An n cn,.slice Ao 0 co,.bool bb] 180 (0,0))):=hI λo=>by have:=zAB h.box (HBA.out o);rw [hn] at this;exact this
 obtain ⟨W0,hW0⟩:∃W0,w.alloc (.cells #[.int .u8 (t.kind:Int),.string x,.slice A t.attrs.length cp,.string u] 131)=W0:=⟨_,rfl⟩;have hg0:=HBX.out (.cells #[.int .u8 (t.kind:Int),.string x,.slice A t.attrs.length cp,.string u] 131);have HBE:=hI (HBA.out (.cells #[.int .u8 (t.kind:Int),.string x,.slice A t.attrs.length cp,.string u] 131));rw [hW0] at hg0 HBE;have k0:=zAA W0 _ 0 _ _ _ hg0;have k1:=zAA W0 _ 1 _ _ _ hg0;clear h ht hL hl HBX hn hg0
 go_enter func178,ntmps178
 go_wp2_with fail
 go_ret
 exact ⟨rfl,HBE.out⟩
theorem zGV (B gs base hi:Nat) (L:List NB) (O:List Nat) (bb:Bool) (Vn Vo:Value) (t:Tk) (x u:ByteArray) (A:Option Addr) (cp:Nat) (w:World) (h:zA8 B gs base hi L O bb Vn Vo w) (ht:TkAt t x u A cp w) (hO:O.length=12) (hl:L.length<=100000) :
 Calls prog 178 #[.pointer (some ⟨gs,0,none⟩),TkV t x u A cp] w λe w'=>e=.returned (.int .i64 100)/\Below w.heap.size w w':=by
 obtain ⟨Ao,co,rfl⟩:=zAD h.gr.op;obtain ⟨An,cn,rfl⟩:=zAD h.gr.nd;obtain ⟨n,hn⟩:∃n,L.length=n:=⟨_,rfl⟩;unfold TkV;have HBA:Hid (∀o,Below w.heap.size w (w.alloc o)):=hI λo=>stpA (Below.refl _ _) o
 have HBX:Hid (∀o,(w.alloc o).heap[gs]?=some (.cells #[.slice An n cn,.slice Ao 12 co,.bool bb] 180 (0,0))):=hI λo=>by have:=zAB h.box (HBA.out o);rw [hn,hO] at this;exact this
 obtain ⟨W0,hW0⟩:∃W0,w.alloc (.cells #[.int .u8 (t.kind:Int),.string x,.slice A t.attrs.length cp,.string u] 131)=W0:=⟨_,rfl⟩;have hg0:=HBX.out (.cells #[.int .u8 (t.kind:Int),.string x,.slice A t.attrs.length cp,.string u] 131);have HBE:=hI (HBA.out (.cells #[.int .u8 (t.kind:Int),.string x,.slice A t.attrs.length cp,.string u] 131));rw [hW0] at hg0 HBE;have k0:=zAA W0 _ 0 _ _ _ hg0;have k1:=zAA W0 _ 1 _ _ _ hg0;clear h ht hO hl HBX hn hg0
 go_enter func178,ntmps178
 go_wp2_with fail
 go_ret
 exact ⟨rfl,HBE.out⟩
theorem zGx (B gs base hi:Nat) (L:List NB) (O:List Nat) (bb:Bool) (Vn Vo:Value) (t:Tk) (x u:ByteArray) (A:Option Addr) (cp:Nat) (w:World) (h:zA8 B gs base hi L O bb Vn Vo w) (ht:TkAt t x u A cp w) (hg:O=[]/\L=[]) (h12:O.length<12) (hl:L.length<=100000) (hO:∀i∈O,i<L.length) (hM:∀b∈L,0<=b.n.many/\b.n.many<=1000000) (hk:t.kind=1∨t.kind=3) :
 Calls prog 178 #[.pointer (some ⟨gs,0,none⟩),TkV t x u A cp] w λe w'=>e=.returned (.int .i64 0)/\Below B w w'∧zP0 B gs base L O bb t w':=by
 obtain ⟨j0,hj0,hy0,hy1,hy2⟩:=info_parts zHN;have HJ:=hI hj0;have HY0:=hI hy0;have HY1:=hI hy1;have HY2:=hI hy2;obtain ⟨i0,hi0,hz0,hz1,hz2⟩:=info_parts zRw;have HI:=hI hi0;have HZ0:=hI hz0;have HZ1:=hI hz1;have HZ2:=hI hz2;obtain ⟨Ao,co,rfl⟩:=zAD h.gr.op;obtain ⟨An,cn,rfl⟩:=zAD h.gr.nd;obtain ⟨n,hn⟩:∃n,L.length=n:=⟨_,rfl⟩;obtain ⟨m,hm⟩:∃m,O.length=m:=⟨_,rfl⟩;obtain ⟨na,hna⟩:∃na,t.attrs.length=na:=⟨_,rfl⟩;obtain ⟨tk,htk⟩:∃tk,t.kind=tk:=⟨_,rfl⟩;obtain rfl:0=m:=by rw [←hm,hg.1];rfl
 obtain rfl:0=n:=by rw [←hn,hg.2];rfl
 have bna:(0:Int)<=(na:Int)/\(na:Int)<=1000000:=by have:=ht.al;omega
 unfold TkV;rw [hna,htk];rw [htk] at hk;have HTK:=hI htk;obtain ⟨W0,hW0⟩:∃W0,w.alloc (.cells #[.int .u8 (tk:Int),.string x,.slice A na cp,.string u] 131)=W0:=⟨_,rfl⟩;have HBE:Hid (Below w.heap.size w W0):=hI (by rw [←hW0];exact stpA (Below.refl _ _) _);have HTB:Hid (W0.heap[w.heap.size]?=some (.cells #[.int .u8 (tk:Int),.string x,.slice A na cp,.string u] 131 (0,0))):=hI (by rw [←hW0];exact heap_alloc_new _ _);have HST:=hI h;have HTA:=hI ht;have HNA:=hI hna;have HNL:=hI hn;have HML:=hI hm;have HOO:=hI hO;have HMM:=hI hM;have HKK:=hI hk;have hg0:=zAB h.box HBE.out;rw [hn,hm] at hg0;have k0:=zAA W0 _ 0 _ _ _ hg0;have k1:=zAA W0 _ 1 _ _ _ hg0;have t1:=zAA W0 _ 1 _ _ _ HTB.out;have HXN:Hid (x.size<=1000000):=hI ht.ns;have HTBL:Hid (∀W,Below W0.heap.size W0 W->W.heap[w.heap.size]?=some (.cells #[.int .u8 (tk:Int),.string x,.slice A na cp,.string u] 131 (0,0))):=hI λW hW=>zAB HTB.out hW
 clear h ht hg h12 hl hO hM hk hj0 hy0 hy1 hy2 hi0 hz0 hz1 hz2 hna hn hm hg0 htk
 go_enter func178,ntmps178
 go_upto_region 6 with (first
  | (go_at_call 87;(with_reducible refine (zBk x _ HXN.out).mono ?_);rintro e2 w2 ⟨rfl,hb2⟩;have HB2:=hI hb2;clear hb2)
  | fail)
 obtain ⟨W3,hW3⟩:∃W3,w2.alloc (.cells #[.int .u8 1,.string ⟨#[]⟩,.string x,.slice none 0 0,.string ⟨#[]⟩,.int .i64 0] 42)=W3:=⟨_,rfl⟩;obtain ⟨bn,hbn⟩:∃bn,w2.heap.size=bn:=⟨_,rfl⟩;have HB3:Hid (Below w2.heap.size w2 W3):=hI (by rw [←hW3];exact stpA (Below.refl _ _) _);have HBN:=hI hbn;have HSZ3:Hid (W3.heap.size=bn+1):=hI (by rw [←hW3,World.size_alloc,hbn]);have HA0:Hid (zEO (bn+1) bn x t.attrs 0 (.slice none 0 0) W3 W3):=hI ⟨by rw [←hW3,←hbn];exact heap_alloc_new w2 _,World.ownsRow_nil _ _ _ _,λ_ _ _=>rfl,⟨by omega,by rw [HSZ3.out];exact Nat.le_refl _⟩,Below.refl _ _⟩
 rw [hW3]
 (try rw [hbn])
 have t2:=zAA W3 _ 2 _ _ _ (HTBL.out _ (stp HB2.out HB3.out));clear hW3 hbn k0 k1 t1
 go_wp2_with fail
 go_loopg [37] na (λgg i wr=>∃(j:Nat) (V':Value),j+gg=na/\i=.int .i64 j/\zEO (bn+1) bn x t.attrs j V' W3 wr)
 case atStart=>exact ⟨0,_,by omega,rfl,HA0.out⟩
 case round =>
  obtain ⟨j,V',hjg,rfl,hat⟩:=hrel;obtain ⟨Aa,ca,rfl⟩:=zAD hat.own;have HAT:=hI hat;have HWA:=hI HST.out.above;have hW3s:=HB2.out.size;have hW0s:=HBE.out.size;have HFW:Hid (∀q,q<w.heap.size->wr.heap[q]?=w.heap[q]?):=hI λq hq=>(hat.oth q (by have:=HBN.out;omega) (by have:=HBN.out;omega)).trans (((stp HBE.out (stp HB2.out HB3.out)).block q hq))
  have HFB:Hid (∀q,q<bn->wr.heap[q]?=W3.heap[q]?):=hI λq hq=>hat.oth q (by omega) (by omega)
  have HWR:Hid (bn+1<=wr.heap.size):=hI (Nat.le_trans hat.lt.2 hat.bel.size);have HBW:Hid (w.heap.size+1<=bn):=hI (by have:=HBN.out;have:=zB7 HTB.out;omega)
  by_cases hlt:j<na
  · have hlt2:(j:Int)<(na:Int):=by omega
    have hjl:j<t.attrs.length:=by rw [HNA.out];exact hlt
    obtain ⟨b1,of1,s,v,hA,hb1,hc0,hc1,hs,hv⟩:=zPo HTA.out.attrs hjl;have HSS:Hid (s.size<=1000000):=hI (by rw [←zAV,hs];exact (HTA.out.sz _ (List.getElem_mem hjl)).1);have HSV:Hid (v.size<=1000000):=hI (by rw [←zAV,hv];exact (HTA.out.sz _ (List.getElem_mem hjl)).2);have HPN:=hI hs;have HPV:=hI hv;have HJL:=hI hjl;have HJB:Hid (j<=1000000):=hI (by omega);have p0:=(zAq (o:=of1+j*2) (HFW.out b1 hb1)).trans hc0;have p1:=(zAq (o:=of1+j*2+1) (HFW.out b1 hb1)).trans hc1;obtain ⟨bp,hbp⟩:∃bp,wr.heap.size=bp:=⟨_,rfl⟩;have HBP:Hid (some bp≠(Value.slice Aa j ca).ownBlock):=hI λe=>by have:=(hat.own.lt _ e.symm).2;omega
    obtain ⟨W4,hW4⟩:∃W4,wr.alloc (.cells #[.string s,.string v] 187)=W4:=⟨_,rfl⟩;have HA4:=hI (hat.below (by rw [←hW4];exact stpA (Below.refl _ _) _:Below wr.heap.size wr W4));have HP4:Hid (W4.heap[bp]?=some (.cells #[.string s,.string v] 187 (0,0))):=hI (by rw [←hW4,←hbp];exact heap_alloc_new wr _);have bj:(0:Int)<=(j:Int):=by omega
    subst hA;clear hat hs hv hc0 hc1 hb1 hW3s hW0s
    go_wp2_with fail
    (try rw [hW4])
    (try rw [hbp])
    clear hW4 hbp;refine wp_region_noPanic ?_;refine zAN (λW=>W.cell? ⟨bn,3,none⟩=some (.slice Aa j ca)/\W.cell? ⟨bp,0,none⟩=some (.string s)/\W.cell? ⟨bp,1,none⟩=some (.string v)) 12 (by kernel_rfl) ?_;have hS:W4.drew.cell? ⟨bn,3,none⟩=some (.slice Aa j ca)/\W4.drew.cell? ⟨bp,0,none⟩=some (.string s)/\W4.drew.cell? ⟨bp,1,none⟩=some (.string v):=⟨zAA W4.drew _ 3 _ _ _ HA4.out.box,zAA W4.drew _ 0 _ _ _ HP4.out,zAA W4.drew _ 1 _ _ _ HP4.out⟩;refine tkZ (i:=0) (v:=.pointer (some ⟨bn,3,none⟩)) rfl (Or.inl ⟨by rfl,?_⟩) hS ?_
    · intro w' hSw;(try dsimp only at hSw);go_simp
    try simp only [Act.put,sTA,sTB,sTC]
    refine tkZ (i:=1) (v:=.slice Aa j ca) rfl (Or.inl ⟨by rfl,?_⟩) hS ?_
    · intro w' hSw;(try dsimp only at hSw);go_simp
    try simp only [Act.put,sTA,sTB,sTC]
    refine tkZ (i:=2) (v:=.pointer (some ⟨bp,0,none⟩)) rfl (Or.inl ⟨by rfl,?_⟩) hS ?_
    · intro w' hSw;(try dsimp only at hSw);go_simp
    try simp only [Act.put,sTA,sTB,sTC]
    refine tkZ (i:=3) (v:=.string s) rfl (Or.inl ⟨by rfl,?_⟩) hS ?_
    · intro w' hSw;(try dsimp only at hSw);go_simp
    try simp only [Act.put,sTA,sTB,sTC]
    refine tkZ (i:=5) (v:=.pointer (some ⟨bp,1,none⟩)) rfl (Or.inl ⟨by rfl,?_⟩) hS ?_
    · intro w' hSw;(try dsimp only at hSw);go_simp
    try simp only [Act.put,sTA,sTB,sTC]
    refine tkZ (i:=6) (v:=.string v) rfl (Or.inl ⟨by rfl,?_⟩) hS ?_
    · intro w' hSw;(try dsimp only at hSw);go_simp
    try simp only [Act.put,sTA,sTB,sTC]
    refine zAS (i:=4) (by kernel_rfl) rfl (λK hK=>?_)
    go_simp
    go_at_call 87;(with_reducible refine (zBk s _ HSS.out).mono ?_);rintro e5 w5 ⟨rfl,hb5⟩
    have HB5:Hid (Below W4.drew.heap.size W4.drew w5):=hI hb5;clear hb5;have HA5:=hI (HA4.out.below (stp (Below.refl _ _).drew HB5.out));have HP5:=hI (zAB HP4.out (stp (Below.refl _ _).drew HB5.out));have hS5:w5.cell? ⟨bn,3,none⟩=some (.slice Aa j ca)/\w5.cell? ⟨bp,0,none⟩=some (.string s)/\w5.cell? ⟨bp,1,none⟩=some (.string v):=⟨zAA w5 _ 3 _ _ _ HA5.out.box,zAA w5 _ 0 _ _ _ HP5.out,zAA w5 _ 1 _ _ _ HP5.out⟩
    go_wp2_with fail
    refine hK.out _ _ (λ_=>hS5) (λ_=>?_);clear hK K hS
    try simp only [Act.put,sTA,sTB,sTC]
    refine zAS (i:=7) (by kernel_rfl) rfl (λK hK=>?_)
    go_simp
    go_at_call 87;(with_reducible refine (zBk v _ HSV.out).mono ?_);rintro e6 w6 ⟨rfl,hb6⟩
    have HB6:Hid (Below w5.heap.size w5 w6):=hI hb6;clear hb6;have HA6:=hI (HA5.out.below HB6.out);have HP6:=hI (zAB HP5.out HB6.out);have hS6:w6.cell? ⟨bn,3,none⟩=some (.slice Aa j ca)/\w6.cell? ⟨bp,0,none⟩=some (.string s)/\w6.cell? ⟨bp,1,none⟩=some (.string v):=⟨zAA w6 _ 3 _ _ _ HA6.out.box,zAA w6 _ 0 _ _ _ HP6.out,zAA w6 _ 1 _ _ _ HP6.out⟩
    go_wp2_with fail
    refine hK.out _ _ (λ_=>hS6) (λ_=>?_);clear hK K hS5
    try simp only [Act.put,sTA,sTB,sTC]
    refine tkZ (i:=8) (v:=.agg #[.string ⟨#[]⟩,.string s,.string v]) rfl (Or.inl ⟨by rfl,?_⟩) hS6 ?_
    · intro w' hSw;(try dsimp only at hSw);go_simp
    try simp only [Act.put,sTA,sTB,sTC]
    refine zAS (i:=9) (by kernel_rfl) rfl (λK hK=>?_)
    go_simp
    have HA7:=hI (HA6.out.below (stpA (Below.refl w6.heap.size w6) (.cells #[.string ⟨#[]⟩,.string s,.string v] 44)));have HP7:=hI (zAB HP6.out (stpA (Below.refl w6.heap.size w6) (.cells #[.string ⟨#[]⟩,.string s,.string v] 44)));have hS7:(w6.alloc (.cells #[.string ⟨#[]⟩,.string s,.string v] 44)).cell? ⟨bn,3,none⟩=some (.slice Aa j ca)/\(w6.alloc (.cells #[.string ⟨#[]⟩,.string s,.string v] 44)).cell? ⟨bp,0,none⟩=some (.string s)/\(w6.alloc (.cells #[.string ⟨#[]⟩,.string s,.string v] 44)).cell? ⟨bp,1,none⟩=some (.string v):=⟨zAA (w6.alloc (.cells #[.string ⟨#[]⟩,.string s,.string v] 44)) _ 3 _ _ _ HA7.out.box,zAA (w6.alloc (.cells #[.string ⟨#[]⟩,.string s,.string v] 44)) _ 0 _ _ _ HP7.out,zAA (w6.alloc (.cells #[.string ⟨#[]⟩,.string s,.string v] 44)) _ 1 _ _ _ HP7.out⟩;refine hK.out _ _ (λ_=>hS7) (λ_=>?_);clear hK K hS6
    try simp only [Act.put,sTA,sTB,sTC]
    refine zAS (i:=10) (by kernel_rfl) rfl (λK hK=>?_);have HSZ:Hid ((bn+1)<=w6.heap.size):=hI (Nat.le_trans HA6.out.lt.2 HA6.out.bel.size);refine step_append_lies _ rfl (.tmp 42) (.tmp 50) 40 rfl (bn+1) 44 j0 (.agg #[.string ⟨#[]⟩,.string ⟨#[]⟩,.string ⟨#[]⟩]) 3 48 underlying40 HJ.out HY0.out HY1.out HY2.out rfl (by decide) _ j _ rfl (zAF HA6.out.own (stpA (Below.refl _ _) _) (Nat.le_refl _)) ⟨w6.heap.size,0,none⟩ 1 1 [.string ⟨#[]⟩,.string s,.string v] rfl rfl (zAp w6 [.string ⟨#[]⟩,.string s,.string v] 44 _ rfl) (by simp [Value.oneCell']) (by decide) (by have:=HJB.out;unfold maxLen;omega) (by have:=HJB.out;omega) (by have:=HSZ.out;rw [World.size_alloc];omega) (w6.heap.size+1) (by rw [World.size_alloc]) ?_;intro g8 c8 w8 hown8 hgr8 hor hlt8;have HP8:=hI (HA6.out.push HJL.out HPN.out HPV.out hown8 hgr8)
    have st8:∀(q:Nat) (o:Obj),q<(bn+1)->w6.heap[q]?=some o->w8.heap[q]?=some o:=λq o hq ho=>by
     have h1:=zAB ho (stpA (Below.refl w6.heap.size w6) (.cells #[.string ⟨#[]⟩,.string s,.string v] 44));exact (hgr8.block _ (Array.getElem?_eq_some_iff.1 h1).1 (λe=>by have:=(HA6.out.own.lt _ e.symm).1;omega)).trans h1
    have hbn8:=st8 bn _ HA6.out.lt.1 HA6.out.box;have hbp8:w8.heap[bp]?=some (.cells #[.string s,.string v] 187 (0,0)):=(hgr8.block bp (by rw [World.size_alloc];have:=zB7 HP6.out;omega) (λe=>HBP.out e)).trans (zAB HP6.out (stpA (Below.refl w6.heap.size w6) (.cells #[.string ⟨#[]⟩,.string s,.string v] 44)));have k8:w8.cell? ⟨bn,3,none⟩=some (.slice Aa j ca)/\w8.cell? ⟨bp,0,none⟩=some (.string s)/\w8.cell? ⟨bp,1,none⟩=some (.string v):=⟨zAA w8 _ 3 _ _ _ hbn8,zAA w8 _ 0 _ _ _ hbp8,zAA w8 _ 1 _ _ _ hbp8⟩;have f8:w8.frozen? ⟨bn,3,none⟩=false:=zAZ w8 _ 3 _ _ hbn8;have k81:=k8.1;clear hown8 hgr8 hor hbn8 hbp8 st8;refine hK.out _ _ (λ_=>k8) (λ_=>?_);clear hK K hS7
    try simp only [Act.put,sTA,sTB,sTC]
    refine tkZ (i:=11) (v:=.pointer (some ⟨bn,3,none⟩)) rfl (Or.inl ⟨by rfl,?_⟩) k8 ?_
    · intro w' hSw;(try dsimp only at hSw);go_simp
    try simp only [Act.put,sTA,sTB,sTC]
    refine zAS (i:=12) (by kernel_rfl) rfl (λK hK=>?_)
    go_simp
    refine hK.out _ _ (λh=>absurd rfl h) (λ_=>?_);clear hK K
    try simp only [Act.put,sTA,sTB,sTC]
    refine zCU (by kernel_rfl) ?_ _;refine NoPanic.normal ?_
    go_wp2_with fail
    go_roundg (gk - 1)
    case measure=>omega
    case rel=>exact ⟨j+1,_,by omega,by go_num,HP8.out⟩
  · obtain rfl:j=na:=by omega
    have hjj:¬((j:Int)<(j:Int)):=by omega
    have hab:=HST.out.above;have hgl:(zAm t.attrs).length=j:=by unfold zAm;rw [List.length_map,HNA.out]
    have hSr:∀q,bn+1<=q->q<wr.heap.size->(base<=q/\q<wr.heap.size/\some q≠(Value.slice An 0 cn).ownBlock/\some q≠(Value.slice Ao 0 co).ownBlock):=λq h1 h2=>⟨by have:=HBW.out;omega,h2,λe=>by have:=(hab.2.2.2.1 q (by rw [HNL.out];exact e.symm)).2;have:=HBW.out;omega,λe=>by have:=(hab.2.2.2.2 q (by rw [HML.out];exact e.symm)).2;have:=HBW.out;omega⟩
    have hnd:=hat.node HNA.out HTA.out.name hSr;have hst:=HST.out.far (hi':=wr.heap.size) HFW.out (Nat.le_trans HST.out.gr.sz (by have:=HWR.out;have:=HBW.out;omega)) (Nat.le_refl _);rw [HNL.out,HML.out] at hst
    have HPT:Hid (Calls prog 205 #[.pointer (some ⟨gs,0,none⟩),.agg #[.int .u8 1,.string ⟨#[]⟩,.string x,.slice Aa j ca,.string ⟨#[]⟩,.int .i64 0]] wr λe w'=>e=.returned (.tuple #[])/\∃Vn',zA8 B gs base wr.heap.size (zDG O L++[(⟨⟨1,[],t.name,zAm t.attrs,[],0⟩,⟨#[]⟩,x,⟨#[]⟩,Aa,ca⟩:NB)]) O bb Vn' (.slice Ao 0 co) w'∧FrP B gs (.slice An 0 cn) (.slice Ao 0 co) wr Vn' (.slice Ao 0 co) w'):=hI (by
     have h9:=zMY B gs base wr.heap.size L O bb (.slice An 0 cn) (.slice Ao 0 co) (⟨⟨1,[],t.name,zAm t.attrs,[],0⟩,⟨#[]⟩,x,⟨#[]⟩,Aa,ca⟩:NB) wr hst hnd (by have:=HNL.out;omega) (by have:=HML.out;omega) HOO.out HMM.out;dsimp only at h9;rw [hgl] at h9;exact h9)
    have HBX:=hI hat.box;have HTW:Hid (wr.heap[w.heap.size]?=some (.cells #[.int .u8 (tk:Int),.string x,.slice A j cp,.string u] 131 (0,0))):=hI ((HFB.out _ (by have:=HBW.out;omega)).trans (HTBL.out _ (stp HB2.out HB3.out)));have HTNE:Hid (w.heap.size≠gs/\some w.heap.size≠(Value.slice An 0 cn).ownBlock/\some w.heap.size≠(Value.slice Ao 0 co).ownBlock/\w.heap.size<wr.heap.size):=hI ⟨by omega,λe=>by have:=(hab.2.2.2.1 _ (by rw [HNL.out];exact e.symm)).2;omega,λe=>by have:=(hab.2.2.2.2 _ (by rw [HML.out];exact e.symm)).2;omega,by have:=HWR.out;have:=HBW.out;omega⟩;have HBB:Hid (Below B w wr):=hI (((stp HBE.out (stp HB2.out HB3.out)).mono hab.1).trans (hat.bel.mono (by have:=HBW.out;omega)));have HLEN:Hid ((zDG O L++[(⟨⟨1,[],t.name,zAm t.attrs,[],0⟩,⟨#[]⟩,x,⟨#[]⟩,Aa,ca⟩:NB)]).length=0+1):=hI (by rw [List.length_append,zG1,HNL.out];rfl);have HND:Hid ((⟨1,[],t.name,zAm t.attrs,[],0⟩:Nd)=zAu t):=hI (by unfold zAu;rw [if_neg (by have:=HTK.out;have:=HKK.out;omega)]);clear hat hab hgl hSr hnd hst hW3s hW0s t2;rcases HKK.out with rfl | rfl
    · go_upto_region 13 with (first
       | (refine wpList_load_row rfl _ _ rfl bn rfl 42 #[.int .u8 1,.string ⟨#[]⟩,.string x,.slice Aa j ca,.string ⟨#[]⟩,.int .i64 0] (0,0) _ HBX.out underlying42 rfl zGN ?_)
       | (go_at_call 205;(with_reducible refine (HPT.out).mono ?_);rintro e8 w8 ⟨rfl,Vn2,hs8,hf8⟩;have HS8:=hI hs8;have HF8:=hI hf8;have c0:=zAA w8 _ 0 _ _ _ ((hf8.blk _ HTNE.out.2.2.2 HTNE.out.1 HTNE.out.2.1 HTNE.out.2.2.1).trans HTW.out);clear hs8 hf8)
       | fail)
      obtain ⟨An2,cn2,rfl⟩:=zAD HS8.out.gr.nd;rw [HLEN.out] at HS8 HF8;have HBS:Hid (base<=w8.heap.size):=hI HS8.out.above.2.2.1;have HMB:Hid (0<=100000):=hI (by omega);have HOP:Hid (w8.drew.ownsRow base 3 1 (.slice Ao 0 co) 0 ((zs O).map encZ)):=hI (by have:=HS8.out.gr.op;rw [HML.out] at this;exact this);have wn1:IntKind.i64.wrap ((0:Nat):Int)=((0:Nat):Int):=IntWalk.i64_in _ (by omega);have wn2:IntKind.i64.wrap 0=0:=by decide
      refine wp_region_noPanic ?_;refine zAN (λW=>W.cell? ⟨gs,0,none⟩=some (.slice An2 (0+1) cn2)/\W.cell? ⟨gs,1,none⟩=some (.slice Ao 0 co)) 15 (by kernel_rfl) ?_;have hS:w8.drew.cell? ⟨gs,0,none⟩=some (.slice An2 (0+1) cn2)/\w8.drew.cell? ⟨gs,1,none⟩=some (.slice Ao 0 co):=⟨zAA w8.drew _ 0 _ _ _ HS8.out.box,zAA w8.drew _ 1 _ _ _ HS8.out.box⟩;refine tkZ (i:=0) (v:=.pointer (some ⟨gs,0,none⟩)) rfl (Or.inl ⟨by rfl,?_⟩) hS ?_
      · intro w' hSw;(try dsimp only at hSw);go_simp
      try simp only [Act.put,sTA,sTB,sTC]
      refine tkZ (i:=1) (v:=.pointer (some ⟨gs,0,none⟩)) rfl (Or.inl ⟨by rfl,?_⟩) hS ?_
      · intro w' hSw;(try dsimp only at hSw);go_simp
      try simp only [Act.put,sTA,sTB,sTC]
      refine tkZ (i:=2) (v:=.pointer (some ⟨gs,0,none⟩)) rfl (Or.inl ⟨by rfl,?_⟩) hS ?_
      · intro w' hSw;(try dsimp only at hSw);go_simp
      try simp only [Act.put,sTA,sTB,sTC]
      refine tkZ (i:=3) (v:=.pointer (some ⟨gs,1,none⟩)) rfl (Or.inl ⟨by rfl,?_⟩) hS ?_
      · intro w' hSw;(try dsimp only at hSw);go_simp
      try simp only [Act.put,sTA,sTB,sTC]
      refine tkZ (i:=4) (v:=.slice Ao 0 co) rfl (Or.inl ⟨by rfl,?_⟩) hS ?_
      · intro w' hSw;(try dsimp only at hSw);go_simp
      try simp only [Act.put,sTA,sTB,sTC]
      refine tkZ (i:=5) (v:=.pointer (some ⟨gs,0,none⟩)) rfl (Or.inl ⟨by rfl,?_⟩) hS ?_
      · intro w' hSw;(try dsimp only at hSw);go_simp
      try simp only [Act.put,sTA,sTB,sTC]
      refine tkZ (i:=6) (v:=.pointer (some ⟨gs,0,none⟩)) rfl (Or.inl ⟨by rfl,?_⟩) hS ?_
      · intro w' hSw;(try dsimp only at hSw);go_simp
      try simp only [Act.put,sTA,sTB,sTC]
      refine tkZ (i:=7) (v:=.pointer (some ⟨gs,0,none⟩)) rfl (Or.inl ⟨by rfl,?_⟩) hS ?_
      · intro w' hSw;(try dsimp only at hSw);go_simp
      try simp only [Act.put,sTA,sTB,sTC]
      refine tkZ (i:=8) (v:=.slice An2 (0+1) cn2) rfl (Or.inl ⟨by rfl,?_⟩) hS ?_
      · intro w' hSw;(try dsimp only at hSw);go_simp
      try simp only [Act.put,sTA,sTB,sTC]
      refine tkZ (i:=9) (v:=.int .i64 ((0+1:Nat):Int)) rfl (Or.inl ⟨by rfl,?_⟩) hS ?_
      · intro w' hSw;(try dsimp only at hSw);go_simp
      try simp only [Act.put,sTA,sTB,sTC]
      refine tkZ (i:=10) (v:=.int .i64 ((0:Nat):Int)) rfl (Or.inl ⟨by rfl,?_⟩) hS ?_
      · intro w' hSw;(try dsimp only at hSw);go_simp
      try simp only [Act.put,sTA,sTB,sTC]
      refine zAS (i:=11) (by kernel_rfl) rfl (λK hK=>?_)
      go_simp
      have HA1:=hI (zAB (a:=w8.drew) HS8.out.box (stpA (Below.refl w8.drew.heap.size w8.drew) (.cells #[.int .i64 ((0:Nat):Int)] 3)));have hS6:(w8.drew.alloc (.cells #[.int .i64 ((0:Nat):Int)] 3)).cell? ⟨gs,0,none⟩=some (.slice An2 (0+1) cn2)/\(w8.drew.alloc (.cells #[.int .i64 ((0:Nat):Int)] 3)).cell? ⟨gs,1,none⟩=some (.slice Ao 0 co):=⟨zAA _ _ 0 _ _ _ HA1.out,zAA _ _ 1 _ _ _ HA1.out⟩;refine hK.out _ _ (λ_=>hS6) (λ_=>?_);clear hK K hS
      try simp only [Act.put,sTA,sTB,sTC]
      refine zAS (i:=12) (by kernel_rfl) rfl (λK hK=>?_);refine step_append_lies _ rfl (.tmp 64) (.tmp 71) 57 rfl base 3 i0 (.int .i64 0) 1 8 underlying57 HI.out HZ0.out HZ1.out HZ2.out rfl (by decide) _ 0 _ rfl (zAF HOP.out (stpA (Below.refl _ _) _) (Nat.le_refl _)) ⟨w8.heap.size,0,none⟩ 1 1 [.int .i64 ((0:Nat):Int)] rfl rfl (zAp w8.drew [.int .i64 ((0:Nat):Int)] 3 _ rfl) (by simp [Value.oneCell']) (by decide) (by have:=HMB.out;unfold maxLen;omega) (by have:=HMB.out;omega) (by have:=HBS.out;show base<=(World.alloc w8 _).heap.size;rw [World.size_alloc];exact Nat.le_succ_of_le this) (w8.heap.size+1) (by show (World.alloc w8 _).heap.size=_;rw [World.size_alloc]) ?_;intro g9 c9 w9 hown9 hgr9 hor hlt9;have hpush:=(HS8.out.below (Below.refl w8.heap.size w8).drew (Nat.le_refl _) HS8.out.gr.sz).openO (i:=0) HML.out hown9 hgr9 hor;have HP9:=hI hpush.1;have HF9:=hI hpush.2;have hgl:w9.heap[gs]?=some (.cells #[.slice An2 (0+1) cn2,.slice Ao 0 co,.bool bb] 180 (0,0)):=(hgr9.block gs (zB7 HA1.out) (λe=>by have:=(HS8.out.gr.op.lt _ e.symm).1;have:=HS8.out.lo;omega)).trans HA1.out;have k8:w9.cell? ⟨gs,0,none⟩=some (.slice An2 (0+1) cn2)/\w9.cell? ⟨gs,1,none⟩=some (.slice Ao 0 co):=⟨zAA w9 _ 0 _ _ _ hgl,zAA w9 _ 1 _ _ _ hgl⟩;have f8:w9.frozen? ⟨gs,1,none⟩=false:=zAZ w9 _ 1 _ _ hgl;have k81:=k8.2;clear hown9 hgr9 hor hgl hpush;refine hK.out _ _ (λ_=>k8) (λ_=>?_);clear hK K hS6
      try simp only [Act.put,sTA,sTB,sTC]
      refine zAS (i:=13) (by kernel_rfl) rfl (λK hK=>?_)
      go_simp
      refine hK.out _ _ (λ_=>k8) (λ_=>?_);clear hK K
      try simp only [Act.put,sTA,sTB,sTC]
      refine tkZ (i:=14) (v:=.pointer (some ⟨gs,1,none⟩)) rfl (Or.inl ⟨by rfl,?_⟩) k8 ?_
      · intro w' hSw;(try dsimp only at hSw);go_simp
      try simp only [Act.put,sTA,sTB,sTC]
      refine zAS (i:=15) (by kernel_rfl) rfl (λK hK=>?_)
      go_simp
      refine hK.out _ _ (λh=>absurd rfl h) (λ_=>?_);clear hK K
      try simp only [Act.put,sTA,sTB,sTC]
      refine zCU (by kernel_rfl) ?_ _;refine NoPanic.normal ?_
      go_wp2_with fail
      go_ret
      exact ⟨rfl,(HBB.out.trans HF8.out.bel).trans ((Below.mono (Below.refl w8.heap.size w8).drew HS8.out.above.1).trans HF9.out),wr.heap.size,(⟨⟨1,[],t.name,zAm t.attrs,[],0⟩,⟨#[]⟩,x,⟨#[]⟩,Aa,ca⟩:NB),_,_,HND.out,by rw [if_neg (by rw [HTK.out];decide),HNL.out];exact HP9.out⟩
    · go_wp2_with (first
       | (refine wpList_load_row rfl _ _ rfl bn rfl 42 #[.int .u8 1,.string ⟨#[]⟩,.string x,.slice Aa j ca,.string ⟨#[]⟩,.int .i64 0] (0,0) _ HBX.out underlying42 rfl zGN ?_)
       | (go_at_call 205;(with_reducible refine (HPT.out).mono ?_);rintro e8 w8 ⟨rfl,Vn2,hs8,hf8⟩;have HS8:=hI hs8;have HF8:=hI hf8;have c0:=zAA w8 _ 0 _ _ _ ((hf8.blk _ HTNE.out.2.2.2 HTNE.out.1 HTNE.out.2.1 HTNE.out.2.2.1).trans HTW.out);clear hs8 hf8)
       | fail)
      go_ret
      exact ⟨rfl,HBB.out.trans HF8.out.bel,wr.heap.size,(⟨⟨1,[],t.name,zAm t.attrs,[],0⟩,⟨#[]⟩,x,⟨#[]⟩,Aa,ca⟩:NB),_,_,HND.out,by rw [if_pos HTK.out];exact HS8.out⟩
theorem zGt (B gs base hi:Nat) (L:List NB) (O:List Nat) (bb:Bool) (Vn Vo:Value) (t:Tk) (x u:ByteArray) (A:Option Addr) (cp:Nat) (w:World) (h:zA8 B gs base hi L O bb Vn Vo w) (ht:TkAt t x u A cp w) (hg:O≠[]) (h12:O.length<12) (hl:L.length<=100000) (hO:∀i∈O,i<L.length) (hM:∀b∈L,0<=b.n.many/\b.n.many<=1000000) (hk:t.kind=1∨t.kind=3) :
 Calls prog 178 #[.pointer (some ⟨gs,0,none⟩),TkV t x u A cp] w λe w'=>e=.returned (.int .i64 0)/\Below B w w'∧zP0 B gs base L O bb t w':=by
 obtain ⟨j0,hj0,hy0,hy1,hy2⟩:=info_parts zHN;have HJ:=hI hj0;have HY0:=hI hy0;have HY1:=hI hy1;have HY2:=hI hy2;obtain ⟨i0,hi0,hz0,hz1,hz2⟩:=info_parts zRw;have HI:=hI hi0;have HZ0:=hI hz0;have HZ1:=hI hz1;have HZ2:=hI hz2;obtain ⟨Ao,co,rfl⟩:=zAD h.gr.op;obtain ⟨An,cn,rfl⟩:=zAD h.gr.nd;obtain ⟨n,hn⟩:∃n,L.length=n:=⟨_,rfl⟩;obtain ⟨m,hm⟩:∃m,O.length=m:=⟨_,rfl⟩;obtain ⟨na,hna⟩:∃na,t.attrs.length=na:=⟨_,rfl⟩;obtain ⟨tk,htk⟩:∃tk,t.kind=tk:=⟨_,rfl⟩
 have bm:(0:Int)<(m:Int)/\(m:Int)<12:=by
  have:=List.length_pos_iff.2 hg
  omega
 have bn0:(0:Int)<=(n:Int)/\(n:Int)<=100000:=by omega
 have fm:((m:Int)==0)=false:=by simp;omega
 have fm2:((m:Int)==12)=false:=by simp;omega
 have fm3:¬(m:Int)=0:=by omega
 have fm4:¬(m:Int)=12:=by omega
 have bna:(0:Int)<=(na:Int)/\(na:Int)<=1000000:=by have:=ht.al;omega
 unfold TkV;rw [hna,htk];rw [htk] at hk;have HTK:=hI htk;obtain ⟨W0,hW0⟩:∃W0,w.alloc (.cells #[.int .u8 (tk:Int),.string x,.slice A na cp,.string u] 131)=W0:=⟨_,rfl⟩;have HBE:Hid (Below w.heap.size w W0):=hI (by rw [←hW0];exact stpA (Below.refl _ _) _);have HTB:Hid (W0.heap[w.heap.size]?=some (.cells #[.int .u8 (tk:Int),.string x,.slice A na cp,.string u] 131 (0,0))):=hI (by rw [←hW0];exact heap_alloc_new _ _);have HST:=hI h;have HTA:=hI ht;have HNA:=hI hna;have HNL:=hI hn;have HML:=hI hm;have HOO:=hI hO;have HMM:=hI hM;have HKK:=hI hk;have hg0:=zAB h.box HBE.out;rw [hn,hm] at hg0;have k0:=zAA W0 _ 0 _ _ _ hg0;have k1:=zAA W0 _ 1 _ _ _ hg0;have t1:=zAA W0 _ 1 _ _ _ HTB.out;have HXN:Hid (x.size<=1000000):=hI ht.ns;have HTBL:Hid (∀W,Below W0.heap.size W0 W->W.heap[w.heap.size]?=some (.cells #[.int .u8 (tk:Int),.string x,.slice A na cp,.string u] 131 (0,0))):=hI λW hW=>zAB HTB.out hW
 clear h ht hg h12 hl hO hM hk hj0 hy0 hy1 hy2 hi0 hz0 hz1 hz2 hna hn hm hg0 htk
 go_enter func178,ntmps178
 go_upto_region 6 with (first
  | (go_at_call 87;(with_reducible refine (zBk x _ HXN.out).mono ?_);rintro e2 w2 ⟨rfl,hb2⟩;have HB2:=hI hb2;clear hb2)
  | fail)
 obtain ⟨W3,hW3⟩:∃W3,w2.alloc (.cells #[.int .u8 1,.string ⟨#[]⟩,.string x,.slice none 0 0,.string ⟨#[]⟩,.int .i64 0] 42)=W3:=⟨_,rfl⟩;obtain ⟨bn,hbn⟩:∃bn,w2.heap.size=bn:=⟨_,rfl⟩;have HB3:Hid (Below w2.heap.size w2 W3):=hI (by rw [←hW3];exact stpA (Below.refl _ _) _);have HBN:=hI hbn;have HSZ3:Hid (W3.heap.size=bn+1):=hI (by rw [←hW3,World.size_alloc,hbn]);have HA0:Hid (zEO (bn+1) bn x t.attrs 0 (.slice none 0 0) W3 W3):=hI ⟨by rw [←hW3,←hbn];exact heap_alloc_new w2 _,World.ownsRow_nil _ _ _ _,λ_ _ _=>rfl,⟨by omega,by rw [HSZ3.out];exact Nat.le_refl _⟩,Below.refl _ _⟩
 rw [hW3]
 (try rw [hbn])
 have t2:=zAA W3 _ 2 _ _ _ (HTBL.out _ (stp HB2.out HB3.out));clear hW3 hbn k0 k1 t1
 go_wp2_with fail
 go_loopg [37] na (λgg i wr=>∃(j:Nat) (V':Value),j+gg=na/\i=.int .i64 j/\zEO (bn+1) bn x t.attrs j V' W3 wr)
 case atStart=>exact ⟨0,_,by omega,rfl,HA0.out⟩
 case round =>
  obtain ⟨j,V',hjg,rfl,hat⟩:=hrel;obtain ⟨Aa,ca,rfl⟩:=zAD hat.own;have HAT:=hI hat;have HWA:=hI HST.out.above;have hW3s:=HB2.out.size;have hW0s:=HBE.out.size;have HFW:Hid (∀q,q<w.heap.size->wr.heap[q]?=w.heap[q]?):=hI λq hq=>(hat.oth q (by have:=HBN.out;omega) (by have:=HBN.out;omega)).trans (((stp HBE.out (stp HB2.out HB3.out)).block q hq))
  have HFB:Hid (∀q,q<bn->wr.heap[q]?=W3.heap[q]?):=hI λq hq=>hat.oth q (by omega) (by omega)
  have HWR:Hid (bn+1<=wr.heap.size):=hI (Nat.le_trans hat.lt.2 hat.bel.size);have HBW:Hid (w.heap.size+1<=bn):=hI (by have:=HBN.out;have:=zB7 HTB.out;omega)
  by_cases hlt:j<na
  · have hlt2:(j:Int)<(na:Int):=by omega
    have hjl:j<t.attrs.length:=by rw [HNA.out];exact hlt
    obtain ⟨b1,of1,s,v,hA,hb1,hc0,hc1,hs,hv⟩:=zPo HTA.out.attrs hjl;have HSS:Hid (s.size<=1000000):=hI (by rw [←zAV,hs];exact (HTA.out.sz _ (List.getElem_mem hjl)).1);have HSV:Hid (v.size<=1000000):=hI (by rw [←zAV,hv];exact (HTA.out.sz _ (List.getElem_mem hjl)).2);have HPN:=hI hs;have HPV:=hI hv;have HJL:=hI hjl;have HJB:Hid (j<=1000000):=hI (by omega);have p0:=(zAq (o:=of1+j*2) (HFW.out b1 hb1)).trans hc0;have p1:=(zAq (o:=of1+j*2+1) (HFW.out b1 hb1)).trans hc1;obtain ⟨bp,hbp⟩:∃bp,wr.heap.size=bp:=⟨_,rfl⟩;have HBP:Hid (some bp≠(Value.slice Aa j ca).ownBlock):=hI λe=>by have:=(hat.own.lt _ e.symm).2;omega
    obtain ⟨W4,hW4⟩:∃W4,wr.alloc (.cells #[.string s,.string v] 187)=W4:=⟨_,rfl⟩;have HA4:=hI (hat.below (by rw [←hW4];exact stpA (Below.refl _ _) _:Below wr.heap.size wr W4));have HP4:Hid (W4.heap[bp]?=some (.cells #[.string s,.string v] 187 (0,0))):=hI (by rw [←hW4,←hbp];exact heap_alloc_new wr _);have bj:(0:Int)<=(j:Int):=by omega
    subst hA;clear hat hs hv hc0 hc1 hb1 hW3s hW0s
    go_wp2_with fail
    (try rw [hW4])
    (try rw [hbp])
    clear hW4 hbp;refine wp_region_noPanic ?_;refine zAN (λW=>W.cell? ⟨bn,3,none⟩=some (.slice Aa j ca)/\W.cell? ⟨bp,0,none⟩=some (.string s)/\W.cell? ⟨bp,1,none⟩=some (.string v)) 12 (by kernel_rfl) ?_;have hS:W4.drew.cell? ⟨bn,3,none⟩=some (.slice Aa j ca)/\W4.drew.cell? ⟨bp,0,none⟩=some (.string s)/\W4.drew.cell? ⟨bp,1,none⟩=some (.string v):=⟨zAA W4.drew _ 3 _ _ _ HA4.out.box,zAA W4.drew _ 0 _ _ _ HP4.out,zAA W4.drew _ 1 _ _ _ HP4.out⟩;refine tkZ (i:=0) (v:=.pointer (some ⟨bn,3,none⟩)) rfl (Or.inl ⟨by rfl,?_⟩) hS ?_
    · intro w' hSw;(try dsimp only at hSw);go_simp
    try simp only [Act.put,sTA,sTB,sTC]
    refine tkZ (i:=1) (v:=.slice Aa j ca) rfl (Or.inl ⟨by rfl,?_⟩) hS ?_
    · intro w' hSw;(try dsimp only at hSw);go_simp
    try simp only [Act.put,sTA,sTB,sTC]
    refine tkZ (i:=2) (v:=.pointer (some ⟨bp,0,none⟩)) rfl (Or.inl ⟨by rfl,?_⟩) hS ?_
    · intro w' hSw;(try dsimp only at hSw);go_simp
    try simp only [Act.put,sTA,sTB,sTC]
    refine tkZ (i:=3) (v:=.string s) rfl (Or.inl ⟨by rfl,?_⟩) hS ?_
    · intro w' hSw;(try dsimp only at hSw);go_simp
    try simp only [Act.put,sTA,sTB,sTC]
    refine tkZ (i:=5) (v:=.pointer (some ⟨bp,1,none⟩)) rfl (Or.inl ⟨by rfl,?_⟩) hS ?_
    · intro w' hSw;(try dsimp only at hSw);go_simp
    try simp only [Act.put,sTA,sTB,sTC]
    refine tkZ (i:=6) (v:=.string v) rfl (Or.inl ⟨by rfl,?_⟩) hS ?_
    · intro w' hSw;(try dsimp only at hSw);go_simp
    try simp only [Act.put,sTA,sTB,sTC]
    refine zAS (i:=4) (by kernel_rfl) rfl (λK hK=>?_)
    go_simp
    go_at_call 87;(with_reducible refine (zBk s _ HSS.out).mono ?_);rintro e5 w5 ⟨rfl,hb5⟩
    have HB5:Hid (Below W4.drew.heap.size W4.drew w5):=hI hb5;clear hb5;have HA5:=hI (HA4.out.below (stp (Below.refl _ _).drew HB5.out));have HP5:=hI (zAB HP4.out (stp (Below.refl _ _).drew HB5.out));have hS5:w5.cell? ⟨bn,3,none⟩=some (.slice Aa j ca)/\w5.cell? ⟨bp,0,none⟩=some (.string s)/\w5.cell? ⟨bp,1,none⟩=some (.string v):=⟨zAA w5 _ 3 _ _ _ HA5.out.box,zAA w5 _ 0 _ _ _ HP5.out,zAA w5 _ 1 _ _ _ HP5.out⟩
    go_wp2_with fail
    refine hK.out _ _ (λ_=>hS5) (λ_=>?_);clear hK K hS
    try simp only [Act.put,sTA,sTB,sTC]
    refine zAS (i:=7) (by kernel_rfl) rfl (λK hK=>?_)
    go_simp
    go_at_call 87;(with_reducible refine (zBk v _ HSV.out).mono ?_);rintro e6 w6 ⟨rfl,hb6⟩
    have HB6:Hid (Below w5.heap.size w5 w6):=hI hb6;clear hb6;have HA6:=hI (HA5.out.below HB6.out);have HP6:=hI (zAB HP5.out HB6.out);have hS6:w6.cell? ⟨bn,3,none⟩=some (.slice Aa j ca)/\w6.cell? ⟨bp,0,none⟩=some (.string s)/\w6.cell? ⟨bp,1,none⟩=some (.string v):=⟨zAA w6 _ 3 _ _ _ HA6.out.box,zAA w6 _ 0 _ _ _ HP6.out,zAA w6 _ 1 _ _ _ HP6.out⟩
    go_wp2_with fail
    refine hK.out _ _ (λ_=>hS6) (λ_=>?_);clear hK K hS5
    try simp only [Act.put,sTA,sTB,sTC]
    refine tkZ (i:=8) (v:=.agg #[.string ⟨#[]⟩,.string s,.string v]) rfl (Or.inl ⟨by rfl,?_⟩) hS6 ?_
    · intro w' hSw;(try dsimp only at hSw);go_simp
    try simp only [Act.put,sTA,sTB,sTC]
    refine zAS (i:=9) (by kernel_rfl) rfl (λK hK=>?_)
    go_simp
    have HA7:=hI (HA6.out.below (stpA (Below.refl w6.heap.size w6) (.cells #[.string ⟨#[]⟩,.string s,.string v] 44)));have HP7:=hI (zAB HP6.out (stpA (Below.refl w6.heap.size w6) (.cells #[.string ⟨#[]⟩,.string s,.string v] 44)));have hS7:(w6.alloc (.cells #[.string ⟨#[]⟩,.string s,.string v] 44)).cell? ⟨bn,3,none⟩=some (.slice Aa j ca)/\(w6.alloc (.cells #[.string ⟨#[]⟩,.string s,.string v] 44)).cell? ⟨bp,0,none⟩=some (.string s)/\(w6.alloc (.cells #[.string ⟨#[]⟩,.string s,.string v] 44)).cell? ⟨bp,1,none⟩=some (.string v):=⟨zAA (w6.alloc (.cells #[.string ⟨#[]⟩,.string s,.string v] 44)) _ 3 _ _ _ HA7.out.box,zAA (w6.alloc (.cells #[.string ⟨#[]⟩,.string s,.string v] 44)) _ 0 _ _ _ HP7.out,zAA (w6.alloc (.cells #[.string ⟨#[]⟩,.string s,.string v] 44)) _ 1 _ _ _ HP7.out⟩;refine hK.out _ _ (λ_=>hS7) (λ_=>?_);clear hK K hS6
    try simp only [Act.put,sTA,sTB,sTC]
    refine zAS (i:=10) (by kernel_rfl) rfl (λK hK=>?_);have HSZ:Hid ((bn+1)<=w6.heap.size):=hI (Nat.le_trans HA6.out.lt.2 HA6.out.bel.size);refine step_append_lies _ rfl (.tmp 42) (.tmp 50) 40 rfl (bn+1) 44 j0 (.agg #[.string ⟨#[]⟩,.string ⟨#[]⟩,.string ⟨#[]⟩]) 3 48 underlying40 HJ.out HY0.out HY1.out HY2.out rfl (by decide) _ j _ rfl (zAF HA6.out.own (stpA (Below.refl _ _) _) (Nat.le_refl _)) ⟨w6.heap.size,0,none⟩ 1 1 [.string ⟨#[]⟩,.string s,.string v] rfl rfl (zAp w6 [.string ⟨#[]⟩,.string s,.string v] 44 _ rfl) (by simp [Value.oneCell']) (by decide) (by have:=HJB.out;unfold maxLen;omega) (by have:=HJB.out;omega) (by have:=HSZ.out;rw [World.size_alloc];omega) (w6.heap.size+1) (by rw [World.size_alloc]) ?_;intro g8 c8 w8 hown8 hgr8 hor hlt8;have HP8:=hI (HA6.out.push HJL.out HPN.out HPV.out hown8 hgr8)
    have st8:∀(q:Nat) (o:Obj),q<(bn+1)->w6.heap[q]?=some o->w8.heap[q]?=some o:=λq o hq ho=>by
     have h1:=zAB ho (stpA (Below.refl w6.heap.size w6) (.cells #[.string ⟨#[]⟩,.string s,.string v] 44));exact (hgr8.block _ (Array.getElem?_eq_some_iff.1 h1).1 (λe=>by have:=(HA6.out.own.lt _ e.symm).1;omega)).trans h1
    have hbn8:=st8 bn _ HA6.out.lt.1 HA6.out.box;have hbp8:w8.heap[bp]?=some (.cells #[.string s,.string v] 187 (0,0)):=(hgr8.block bp (by rw [World.size_alloc];have:=zB7 HP6.out;omega) (λe=>HBP.out e)).trans (zAB HP6.out (stpA (Below.refl w6.heap.size w6) (.cells #[.string ⟨#[]⟩,.string s,.string v] 44)));have k8:w8.cell? ⟨bn,3,none⟩=some (.slice Aa j ca)/\w8.cell? ⟨bp,0,none⟩=some (.string s)/\w8.cell? ⟨bp,1,none⟩=some (.string v):=⟨zAA w8 _ 3 _ _ _ hbn8,zAA w8 _ 0 _ _ _ hbp8,zAA w8 _ 1 _ _ _ hbp8⟩;have f8:w8.frozen? ⟨bn,3,none⟩=false:=zAZ w8 _ 3 _ _ hbn8;have k81:=k8.1;clear hown8 hgr8 hor hbn8 hbp8 st8;refine hK.out _ _ (λ_=>k8) (λ_=>?_);clear hK K hS7
    try simp only [Act.put,sTA,sTB,sTC]
    refine tkZ (i:=11) (v:=.pointer (some ⟨bn,3,none⟩)) rfl (Or.inl ⟨by rfl,?_⟩) k8 ?_
    · intro w' hSw;(try dsimp only at hSw);go_simp
    try simp only [Act.put,sTA,sTB,sTC]
    refine zAS (i:=12) (by kernel_rfl) rfl (λK hK=>?_)
    go_simp
    refine hK.out _ _ (λh=>absurd rfl h) (λ_=>?_);clear hK K
    try simp only [Act.put,sTA,sTB,sTC]
    refine zCU (by kernel_rfl) ?_ _;refine NoPanic.normal ?_
    go_wp2_with fail
    go_roundg (gk - 1)
    case measure=>omega
    case rel=>exact ⟨j+1,_,by omega,by go_num,HP8.out⟩
  · obtain rfl:j=na:=by omega
    have hjj:¬((j:Int)<(j:Int)):=by omega
    have hab:=HST.out.above;have hgl:(zAm t.attrs).length=j:=by unfold zAm;rw [List.length_map,HNA.out]
    have hSr:∀q,bn+1<=q->q<wr.heap.size->(base<=q/\q<wr.heap.size/\some q≠(Value.slice An n cn).ownBlock/\some q≠(Value.slice Ao m co).ownBlock):=λq h1 h2=>⟨by have:=HBW.out;omega,h2,λe=>by have:=(hab.2.2.2.1 q (by rw [HNL.out];exact e.symm)).2;have:=HBW.out;omega,λe=>by have:=(hab.2.2.2.2 q (by rw [HML.out];exact e.symm)).2;have:=HBW.out;omega⟩
    have hnd:=hat.node HNA.out HTA.out.name hSr;have hst:=HST.out.far (hi':=wr.heap.size) HFW.out (Nat.le_trans HST.out.gr.sz (by have:=HWR.out;have:=HBW.out;omega)) (Nat.le_refl _);rw [HNL.out,HML.out] at hst
    have HPT:Hid (Calls prog 205 #[.pointer (some ⟨gs,0,none⟩),.agg #[.int .u8 1,.string ⟨#[]⟩,.string x,.slice Aa j ca,.string ⟨#[]⟩,.int .i64 0]] wr λe w'=>e=.returned (.tuple #[])/\∃Vn',zA8 B gs base wr.heap.size (zDG O L++[(⟨⟨1,[],t.name,zAm t.attrs,[],0⟩,⟨#[]⟩,x,⟨#[]⟩,Aa,ca⟩:NB)]) O bb Vn' (.slice Ao m co) w'∧FrP B gs (.slice An n cn) (.slice Ao m co) wr Vn' (.slice Ao m co) w'):=hI (by
     have h9:=zMY B gs base wr.heap.size L O bb (.slice An n cn) (.slice Ao m co) (⟨⟨1,[],t.name,zAm t.attrs,[],0⟩,⟨#[]⟩,x,⟨#[]⟩,Aa,ca⟩:NB) wr hst hnd (by have:=HNL.out;omega) (by have:=HML.out;omega) HOO.out HMM.out;dsimp only at h9;rw [hgl] at h9;exact h9)
    have HBX:=hI hat.box;have HTW:Hid (wr.heap[w.heap.size]?=some (.cells #[.int .u8 (tk:Int),.string x,.slice A j cp,.string u] 131 (0,0))):=hI ((HFB.out _ (by have:=HBW.out;omega)).trans (HTBL.out _ (stp HB2.out HB3.out)));have HTNE:Hid (w.heap.size≠gs/\some w.heap.size≠(Value.slice An n cn).ownBlock/\some w.heap.size≠(Value.slice Ao m co).ownBlock/\w.heap.size<wr.heap.size):=hI ⟨by omega,λe=>by have:=(hab.2.2.2.1 _ (by rw [HNL.out];exact e.symm)).2;omega,λe=>by have:=(hab.2.2.2.2 _ (by rw [HML.out];exact e.symm)).2;omega,by have:=HWR.out;have:=HBW.out;omega⟩;have HBB:Hid (Below B w wr):=hI (((stp HBE.out (stp HB2.out HB3.out)).mono hab.1).trans (hat.bel.mono (by have:=HBW.out;omega)));have HLEN:Hid ((zDG O L++[(⟨⟨1,[],t.name,zAm t.attrs,[],0⟩,⟨#[]⟩,x,⟨#[]⟩,Aa,ca⟩:NB)]).length=n+1):=hI (by rw [List.length_append,zG1,HNL.out];rfl);have HND:Hid ((⟨1,[],t.name,zAm t.attrs,[],0⟩:Nd)=zAu t):=hI (by unfold zAu;rw [if_neg (by have:=HTK.out;have:=HKK.out;omega)]);clear hat hab hgl hSr hnd hst hW3s hW0s t2;rcases HKK.out with rfl | rfl
    · go_upto_region 13 with (first
       | (refine wpList_load_row rfl _ _ rfl bn rfl 42 #[.int .u8 1,.string ⟨#[]⟩,.string x,.slice Aa j ca,.string ⟨#[]⟩,.int .i64 0] (0,0) _ HBX.out underlying42 rfl zGN ?_)
       | (go_at_call 205;(with_reducible refine (HPT.out).mono ?_);rintro e8 w8 ⟨rfl,Vn2,hs8,hf8⟩;have HS8:=hI hs8;have HF8:=hI hf8;have c0:=zAA w8 _ 0 _ _ _ ((hf8.blk _ HTNE.out.2.2.2 HTNE.out.1 HTNE.out.2.1 HTNE.out.2.2.1).trans HTW.out);clear hs8 hf8)
       | fail)
      obtain ⟨An2,cn2,rfl⟩:=zAD HS8.out.gr.nd;rw [HLEN.out] at HS8 HF8;have HBS:Hid (base<=w8.heap.size):=hI HS8.out.above.2.2.1;have HMB:Hid (m<=100000):=hI (by omega);have HOP:Hid (w8.drew.ownsRow base 3 1 (.slice Ao m co) m ((zs O).map encZ)):=hI (by have:=HS8.out.gr.op;rw [HML.out] at this;exact this);have wn1:IntKind.i64.wrap ((n:Nat):Int)=((n:Nat):Int):=IntWalk.i64_in _ (by omega);have wn2:IntKind.i64.wrap 0=0:=by decide
      refine wp_region_noPanic ?_;refine zAN (λW=>W.cell? ⟨gs,0,none⟩=some (.slice An2 (n+1) cn2)/\W.cell? ⟨gs,1,none⟩=some (.slice Ao m co)) 15 (by kernel_rfl) ?_;have hS:w8.drew.cell? ⟨gs,0,none⟩=some (.slice An2 (n+1) cn2)/\w8.drew.cell? ⟨gs,1,none⟩=some (.slice Ao m co):=⟨zAA w8.drew _ 0 _ _ _ HS8.out.box,zAA w8.drew _ 1 _ _ _ HS8.out.box⟩;refine tkZ (i:=0) (v:=.pointer (some ⟨gs,0,none⟩)) rfl (Or.inl ⟨by rfl,?_⟩) hS ?_
      · intro w' hSw;(try dsimp only at hSw);go_simp
      try simp only [Act.put,sTA,sTB,sTC]
      refine tkZ (i:=1) (v:=.pointer (some ⟨gs,0,none⟩)) rfl (Or.inl ⟨by rfl,?_⟩) hS ?_
      · intro w' hSw;(try dsimp only at hSw);go_simp
      try simp only [Act.put,sTA,sTB,sTC]
      refine tkZ (i:=2) (v:=.pointer (some ⟨gs,0,none⟩)) rfl (Or.inl ⟨by rfl,?_⟩) hS ?_
      · intro w' hSw;(try dsimp only at hSw);go_simp
      try simp only [Act.put,sTA,sTB,sTC]
      refine tkZ (i:=3) (v:=.pointer (some ⟨gs,1,none⟩)) rfl (Or.inl ⟨by rfl,?_⟩) hS ?_
      · intro w' hSw;(try dsimp only at hSw);go_simp
      try simp only [Act.put,sTA,sTB,sTC]
      refine tkZ (i:=4) (v:=.slice Ao m co) rfl (Or.inl ⟨by rfl,?_⟩) hS ?_
      · intro w' hSw;(try dsimp only at hSw);go_simp
      try simp only [Act.put,sTA,sTB,sTC]
      refine tkZ (i:=5) (v:=.pointer (some ⟨gs,0,none⟩)) rfl (Or.inl ⟨by rfl,?_⟩) hS ?_
      · intro w' hSw;(try dsimp only at hSw);go_simp
      try simp only [Act.put,sTA,sTB,sTC]
      refine tkZ (i:=6) (v:=.pointer (some ⟨gs,0,none⟩)) rfl (Or.inl ⟨by rfl,?_⟩) hS ?_
      · intro w' hSw;(try dsimp only at hSw);go_simp
      try simp only [Act.put,sTA,sTB,sTC]
      refine tkZ (i:=7) (v:=.pointer (some ⟨gs,0,none⟩)) rfl (Or.inl ⟨by rfl,?_⟩) hS ?_
      · intro w' hSw;(try dsimp only at hSw);go_simp
      try simp only [Act.put,sTA,sTB,sTC]
      refine tkZ (i:=8) (v:=.slice An2 (n+1) cn2) rfl (Or.inl ⟨by rfl,?_⟩) hS ?_
      · intro w' hSw;(try dsimp only at hSw);go_simp
      try simp only [Act.put,sTA,sTB,sTC]
      refine tkZ (i:=9) (v:=.int .i64 ((n+1:Nat):Int)) rfl (Or.inl ⟨by rfl,?_⟩) hS ?_
      · intro w' hSw;(try dsimp only at hSw);go_simp
      try simp only [Act.put,sTA,sTB,sTC]
      refine tkZ (i:=10) (v:=.int .i64 ((n:Nat):Int)) rfl (Or.inl ⟨by rfl,?_⟩) hS ?_
      · intro w' hSw;(try dsimp only at hSw);go_simp
      try simp only [Act.put,sTA,sTB,sTC]
      refine zAS (i:=11) (by kernel_rfl) rfl (λK hK=>?_)
      go_simp
      have HA1:=hI (zAB (a:=w8.drew) HS8.out.box (stpA (Below.refl w8.drew.heap.size w8.drew) (.cells #[.int .i64 ((n:Nat):Int)] 3)));have hS6:(w8.drew.alloc (.cells #[.int .i64 ((n:Nat):Int)] 3)).cell? ⟨gs,0,none⟩=some (.slice An2 (n+1) cn2)/\(w8.drew.alloc (.cells #[.int .i64 ((n:Nat):Int)] 3)).cell? ⟨gs,1,none⟩=some (.slice Ao m co):=⟨zAA _ _ 0 _ _ _ HA1.out,zAA _ _ 1 _ _ _ HA1.out⟩;refine hK.out _ _ (λ_=>hS6) (λ_=>?_);clear hK K hS
      try simp only [Act.put,sTA,sTB,sTC]
      refine zAS (i:=12) (by kernel_rfl) rfl (λK hK=>?_);refine step_append_lies _ rfl (.tmp 64) (.tmp 71) 57 rfl base 3 i0 (.int .i64 0) 1 8 underlying57 HI.out HZ0.out HZ1.out HZ2.out rfl (by decide) _ m _ rfl (zAF HOP.out (stpA (Below.refl _ _) _) (Nat.le_refl _)) ⟨w8.heap.size,0,none⟩ 1 1 [.int .i64 ((n:Nat):Int)] rfl rfl (zAp w8.drew [.int .i64 ((n:Nat):Int)] 3 _ rfl) (by simp [Value.oneCell']) (by decide) (by have:=HMB.out;unfold maxLen;omega) (by have:=HMB.out;omega) (by have:=HBS.out;show base<=(World.alloc w8 _).heap.size;rw [World.size_alloc];exact Nat.le_succ_of_le this) (w8.heap.size+1) (by show (World.alloc w8 _).heap.size=_;rw [World.size_alloc]) ?_;intro g9 c9 w9 hown9 hgr9 hor hlt9;have hpush:=(HS8.out.below (Below.refl w8.heap.size w8).drew (Nat.le_refl _) HS8.out.gr.sz).openO (i:=n) HML.out hown9 hgr9 hor;have HP9:=hI hpush.1;have HF9:=hI hpush.2;have hgl:w9.heap[gs]?=some (.cells #[.slice An2 (n+1) cn2,.slice Ao m co,.bool bb] 180 (0,0)):=(hgr9.block gs (zB7 HA1.out) (λe=>by have:=(HS8.out.gr.op.lt _ e.symm).1;have:=HS8.out.lo;omega)).trans HA1.out;have k8:w9.cell? ⟨gs,0,none⟩=some (.slice An2 (n+1) cn2)/\w9.cell? ⟨gs,1,none⟩=some (.slice Ao m co):=⟨zAA w9 _ 0 _ _ _ hgl,zAA w9 _ 1 _ _ _ hgl⟩;have f8:w9.frozen? ⟨gs,1,none⟩=false:=zAZ w9 _ 1 _ _ hgl;have k81:=k8.2;clear hown9 hgr9 hor hgl hpush;refine hK.out _ _ (λ_=>k8) (λ_=>?_);clear hK K hS6
      try simp only [Act.put,sTA,sTB,sTC]
      refine zAS (i:=13) (by kernel_rfl) rfl (λK hK=>?_)
      go_simp
      refine hK.out _ _ (λ_=>k8) (λ_=>?_);clear hK K
      try simp only [Act.put,sTA,sTB,sTC]
      refine tkZ (i:=14) (v:=.pointer (some ⟨gs,1,none⟩)) rfl (Or.inl ⟨by rfl,?_⟩) k8 ?_
      · intro w' hSw;(try dsimp only at hSw);go_simp
      try simp only [Act.put,sTA,sTB,sTC]
      refine zAS (i:=15) (by kernel_rfl) rfl (λK hK=>?_)
      go_simp
      refine hK.out _ _ (λh=>absurd rfl h) (λ_=>?_);clear hK K
      try simp only [Act.put,sTA,sTB,sTC]
      refine zCU (by kernel_rfl) ?_ _;refine NoPanic.normal ?_
      go_wp2_with fail
      go_ret
      exact ⟨rfl,(HBB.out.trans HF8.out.bel).trans ((Below.mono (Below.refl w8.heap.size w8).drew HS8.out.above.1).trans HF9.out),wr.heap.size,(⟨⟨1,[],t.name,zAm t.attrs,[],0⟩,⟨#[]⟩,x,⟨#[]⟩,Aa,ca⟩:NB),_,_,HND.out,by rw [if_neg (by rw [HTK.out];decide),HNL.out];exact HP9.out⟩
    · go_wp2_with (first
       | (refine wpList_load_row rfl _ _ rfl bn rfl 42 #[.int .u8 1,.string ⟨#[]⟩,.string x,.slice Aa j ca,.string ⟨#[]⟩,.int .i64 0] (0,0) _ HBX.out underlying42 rfl zGN ?_)
       | (go_at_call 205;(with_reducible refine (HPT.out).mono ?_);rintro e8 w8 ⟨rfl,Vn2,hs8,hf8⟩;have HS8:=hI hs8;have HF8:=hI hf8;have c0:=zAA w8 _ 0 _ _ _ ((hf8.blk _ HTNE.out.2.2.2 HTNE.out.1 HTNE.out.2.1 HTNE.out.2.2.1).trans HTW.out);clear hs8 hf8)
       | fail)
      go_ret
      exact ⟨rfl,HBB.out.trans HF8.out.bel,wr.heap.size,(⟨⟨1,[],t.name,zAm t.attrs,[],0⟩,⟨#[]⟩,x,⟨#[]⟩,Aa,ca⟩:NB),_,_,HND.out,by rw [if_pos HTK.out];exact HS8.out⟩
def zCD (B gs base:Nat) (bb:Bool) (x:Except Int PS) (w:World) (e:Ending) (w':World):Prop:=∃r:Int,e=.returned (.int .i64 r)/\Below B w w'∧match x with
 | .error q=>r=q
 | .ok s=>r=0/\∃(hi:Nat) (L:List NB) (Vn Vo:Value),L.map NB.n=s.V/\zA8 B gs base hi L s.O bb Vn Vo w'
theorem zCD.err {B gs base:Nat} {bb:Bool} {w w':World} {q:Int} (hb:Below B w w'):zCD B gs base bb (.error q) w (.returned (.int .i64 q)) w':=⟨q,rfl,hb,rfl⟩
theorem zCD.good {B gs base hi:Nat} {bb:Bool} {w w':World} {s:PS} {L:List NB} {O:List Nat} {Vn Vo:Value} (hb:Below B w w') (h1:L.map NB.n=s.V) (h2:O=s.O) (h:zA8 B gs base hi L O bb Vn Vo w'):zCD B gs base bb (.ok s) w (.returned (.int .i64 0)) w':=⟨0,rfl,hb,rfl,hi,L,Vn,Vo,h1,by rw [←h2];exact h⟩
structure PSb (K:Nat) (s:PS):Prop where
 len:s.V.length<=K
 dp:s.O.length<=12
 pl:∀i∈s.O,i<s.V.length
 mm:∀n∈s.V,0<=n.many/\n.many<=(K:Int)
theorem PSb.nil:PSb 0 ⟨[],[]⟩:=⟨Nat.le_refl _,by decide,λ_ h=>(by cases h),λ_ h=>(by cases h)⟩
theorem zHb {O:List Nat} {V:List Nd} {K:Int} (h:∀n∈V,0<=n.many/\n.many<=K):∀n∈bump O V,0<=n.many/\n.many<=K+1:=by
 intro n hn;unfold bump at hn
 split at hn
 · have:=h n hn;omega
 · obtain ⟨j,hj,e⟩:=List.getElem_of_mem hn
   rw [List.getElem_modify] at e;rw [List.length_modify] at hj;have h9:=h _ (List.getElem_mem hj)
   split at e
   · rw [←e]
     show 0<=_+1/\_+1<=_
     omega
   · rw [←e];omega
theorem zJO (O:List Nat) (V:List Nd):(bump O V).length=V.length:=by
 unfold bump
 split
 · rfl
 · exact List.length_modify ..
theorem zKQ (t:Tk):(zAu t).many=0:=by unfold zAu;split <;> rfl
theorem PSb.more {K:Nat} {s:PS} {b:Bool} {t:Tk} {s':PS} (h:PSb K s) (hs:zBA s b t=.ok s'):PSb (K+1) s':=by
 have hnew:∀(n:Nd),(∀m∈bump s.O s.V++[zAu t],0<=m.many/\m.many<=((K+1:Nat):Int)):=λ_ m hm=>by
  rcases List.mem_append.1 hm with hm | hm
  · have:=zHb h.mm m hm;omega
  · obtain rfl:=List.mem_singleton.1 hm
    rw [zKQ]
    omega
 have hl:(bump s.O s.V++[zAu t]).length=s.V.length+1:=by rw [List.length_append,zJO];rfl
 have h1:=h.len;have same:PSb (K+1) s:=⟨by omega,h.dp,h.pl,λn hn=>by have:=h.mm n hn;omega⟩;unfold zBA at hs
 split at hs
 · split at hs
   · cases hs
   · split at hs
     · split at hs
       · injection hs with hs;subst hs;exact same
       · cases hs
     · injection hs with hs
       subst hs;exact ⟨by rw [hl];omega,h.dp,λi hi=>by rw [hl];have:=h.pl i hi;omega,hnew (zAu t)⟩
 · split at hs
   · split at hs
     · cases hs
     · split at hs
       · injection hs with hs
         subst hs;exact ⟨by show s.V.length<=_;omega,by show s.O.dropLast.length<=12;rw [List.length_dropLast];have:=h.dp;omega,λi hi=>h.pl i (List.dropLast_subset _ hi),same.mm⟩
       · cases hs
   · split at hs
     · cases hs
     · split at hs
       · cases hs
       · rename_i h12
         injection hs with hs;subst hs;refine ⟨by rw [hl];omega,?_,?_,hnew (zAu t)⟩
         · show (if t.kind=3 then s.O else s.O++[s.V.length]).length<=12
           have:=h.dp
           split
           · omega
           · rw [List.length_append,List.length_singleton];omega
         · intro i hi
           have hi:i∈(if t.kind=3 then s.O else s.O++[s.V.length]):=hi;rw [hl]
           split at hi
           · have:=h.pl i hi;omega
           · rcases List.mem_append.1 hi with hi | hi
             · have:=h.pl i hi;omega
             · obtain rfl:=List.mem_singleton.1 hi
               omega
structure StOf (B gs base:Nat) (s:PS) (bb:Bool) (wr:World):Prop where
 ex:∃(hi:Nat) (L:List NB) (Vn Vo:Value),L.map NB.n=s.V/\zA8 B gs base hi L s.O bb Vn Vo wr
theorem zLg {L:List NB} {V:List Nd} {K:Nat} (hV:L.map NB.n=V) (h:∀n∈V,0<=n.many/\n.many<=(K:Int)) (hK:K<=1000000):∀b∈L,0<=b.n.many/\b.n.many<=1000000:=λb hb=>by
 have:=h b.n (by rw [←hV];exact List.mem_map_of_mem hb)
 omega
theorem zOC (B gs base:Nat) (s:PS) (bb b:Bool) (K:Nat) (t:Tk) (x:ByteArray) (w:World) (h:StOf B gs base s bb w) (hi:PSb K s) (hK:K<=100000) (hx:x.data.toList=t.name) (ht:t.kind=2) :
 Calls prog 177 #[.pointer (some ⟨gs,0,none⟩),.string x] w (zCD B gs base bb (zBA s b t) w):=by
 obtain ⟨⟨hi2,L,Vn,Vo,hV,hst⟩⟩:=h;have hLl:L.length=s.V.length:=by rw [←hV,List.length_map]
 have h1:=hi.len;have h2:=hi.dp;have hab:=hst.above;rcases List.eq_nil_or_concat s.O with h0 | ⟨O1,i,h0⟩
 · have e:zBA s b t=.error 80:=by
    unfold zBA;rw [if_neg (by omega),if_pos ht,h0]
    rfl
   rw [e]
   exact (zG4 B gs base hi2 L s.O bb Vn Vo x w hst (by omega) (by omega) h0).mono λe w' h=>by
    obtain ⟨rfl,hb⟩:=h;exact zCD.err (hb.mono hab.1)
 · rw [List.concat_eq_append] at h0
   have hil:i<L.length:=by rw [hLl];exact hi.pl i (by rw [h0];simp)
   have hiv:i<s.V.length:=by omega
   have hnm:(L[i]'hil).y.data.toList=(s.V[i]'hiv).name:=by
    have:=(hst.gr.inn _ (List.getElem_mem hil)).name;rw [this]
    have e:(s.V[i]'hiv)=(L[i]'hil).n:=by
     have:(L.map NB.n)[i]'(by rw [List.length_map];exact hil)=(L[i]'hil).n:=List.getElem_map ..;rw [←this]
     congr 1
     exact hV.symm
    rw [e]
   have e:zBA s b t=if (s.V[i]'hiv).name=t.name then .ok ⟨s.V,s.O.dropLast⟩ else .error 80:=by
    unfold zBA;rw [if_neg (by omega),if_pos ht,h0,List.getLast?_concat];dsimp only;rw [List.getElem?_eq_getElem hiv]
    by_cases hn:(s.V[i]'hiv).name=t.name
    · rw [if_pos hn,if_pos (by rw [←hn];rfl)]
    · rw [if_neg hn,if_neg (show ¬(Option.map (λx=>x.name) (some (s.V[i]'hiv))=some t.name) from λh=>hn (Option.some.inj h))]
   rw [e];refine (zHB B gs base hi2 L s.O bb Vn Vo x w hst (by omega) (by omega) O1 i h0 hil _ rfl).mono λe w' h=>?_
   by_cases hn:(s.V[i]'hiv).name=t.name
   · have hq:decide ((L[i]'hil).y=x)=true:=decide_eq_true (by rw [zB4 x,hx,←hn,←hnm,←zB4])
     rw [hq,if_pos rfl] at h;rw [if_pos hn];obtain ⟨rfl,hb,Vo',hs⟩:=h;exact zCD.good hb hV rfl hs
   · have hq:decide ((L[i]'hil).y=x)=false:=decide_eq_false λe=>hn (by rw [←hnm,e,hx])
     rw [hq,if_neg (by decide)] at h;rw [if_neg hn];obtain ⟨rfl,hb⟩:=h;exact zCD.err (hb.mono hab.1)
theorem zMv (B gs base:Nat) (s:PS) (bb:Bool) (K:Nat) (t:Tk) (u:ByteArray) (w:World) (h:StOf B gs base s bb w) (hi:PSb K s) (hK:K<=100000) (hx:u.data.toList=t.text) (hu:u.size<=1000000) (ht:t.kind=4) :
 Calls prog 179 #[.pointer (some ⟨gs,0,none⟩),.string u] w (zCD B gs base bb (zBA s false t) w):=by
 obtain ⟨⟨hi2,L,Vn,Vo,hV,hst⟩⟩:=h;have hLl:L.length=s.V.length:=by rw [←hV,List.length_map]
 have h1:=hi.len;have h2:=hi.dp;have hab:=hst.above
 by_cases h0:s.O=[]
 · have e:zBA s false t=if t.text.all blk=true then .ok s else .error 80:=by
    unfold zBA;rw [if_pos ht,if_neg (by decide),if_pos h0]
   rw [e];refine (zFz B gs base hi2 L s.O bb Vn Vo u w hst (by omega) (by omega) h0 hu _ rfl _ rfl).mono λe w' h=>?_
   rw [hx] at h;obtain ⟨rfl,hb⟩:=h
   by_cases hq:t.text.all blk=true
   · rw [if_pos hq,if_pos hq]
     exact zCD.good (hb.mono hab.1) hV rfl (hst.below hb (Nat.le_refl _) (Nat.le_trans hst.gr.sz hb.size))
   · rw [if_neg hq,if_neg hq]
     exact zCD.err (hb.mono hab.1)
 · have e:zBA s false t=.ok ⟨bump s.O s.V++[zAu t],s.O⟩:=by
    unfold zBA;rw [if_pos ht,if_neg (by decide),if_neg h0]
   rw [e];refine (zF0 B gs base hi2 L s.O bb Vn Vo u w hst (by omega) (by omega) h0 hu (λi hi'=>by rw [hLl];exact hi.pl i hi') (zLg hV hi.mm (by omega))).mono λe w' h=>?_
   obtain ⟨rfl,hb,Vn',hs⟩:=h;refine zCD.good hb ?_ rfl hs;rw [List.map_append,zHY,hV];unfold zAu;rw [if_pos ht,←hx]
   rfl
theorem zLK (B gs base:Nat) (s:PS) (bb b:Bool) (K:Nat) (t:Tk) (x u:ByteArray) (A:Option Addr) (cp:Nat) (w:World) (h:StOf B gs base s bb w) (hi:PSb K s) (hK:K<=100000) (htk:TkAt t x u A cp w) (ht:t.kind=1∨t.kind=3) :
 Calls prog 178 #[.pointer (some ⟨gs,0,none⟩),TkV t x u A cp] w (zCD B gs base bb (zBA s b t) w):=by
 obtain ⟨⟨hi2,L,Vn,Vo,hV,hst⟩⟩:=h;have hLl:L.length=s.V.length:=by rw [←hV,List.length_map]
 have h1:=hi.len;have h2:=hi.dp;have hab:=hst.above
 have e:zBA s b t=if s.O=[]/\s.V≠[] then .error 80 else if s.O.length=12 then .error 100 else .ok ⟨bump s.O s.V++[zAu t],if t.kind=3 then s.O else s.O++[s.V.length]⟩:=by
  unfold zBA;rw [if_neg (by omega),if_neg (by omega)]
 rw [e];have hLV:L=[]↔s.V=[]:=by rw [←List.length_eq_zero_iff,←List.length_eq_zero_iff,hLl]
 have good:∀(e:Ending) (w':World),(e=.returned (.int .i64 0)/\Below B w w'∧zP0 B gs base L s.O bb t w')->zCD B gs base bb (.ok ⟨bump s.O s.V++[zAu t],if t.kind=3 then s.O else s.O++[s.V.length]⟩) w e w':=by
  rintro e w' ⟨rfl,hb,hi3,b3,Vn2,Vo2,hb3,hs⟩;refine zCD.good hb ?_ rfl (by rw [hLl] at hs;exact hs);rw [List.map_append,zHY,hV];show _++[b3.n]=_;rw [hb3]
 by_cases hg:s.O=[]/\s.V≠[]
 · rw [if_pos hg]
   exact (zHm B gs base hi2 L s.O bb Vn Vo t x u A cp w hst htk hg.1 (λe=>hg.2 (hLV.1 e)) (by omega)).mono λe w' h=>by
    obtain ⟨rfl,hb⟩:=h;exact zCD.err (hb.mono hab.1)
 · rw [if_neg hg]
   by_cases h12:s.O.length=12
   · rw [if_pos h12]
     exact (zGV B gs base hi2 L s.O bb Vn Vo t x u A cp w hst htk h12 (by omega)).mono λe w' h=>by
      obtain ⟨rfl,hb⟩:=h;exact zCD.err (hb.mono hab.1)
   · rw [if_neg h12]
     by_cases h0:s.O=[]
     · have hV0:s.V=[]:=by
        by_cases hv:s.V=[]
        · exact hv
        · exact absurd ⟨h0,hv⟩ hg
       exact (zGx B gs base hi2 L s.O bb Vn Vo t x u A cp w hst htk ⟨h0,hLV.2 hV0⟩ (by omega) (by omega) (λi hi'=>by rw [hLl];exact hi.pl i hi') (zLg hV hi.mm (by omega)) ht).mono λe w' h=>good e w' h
     · exact (zGt B gs base hi2 L s.O bb Vn Vo t x u A cp w hst htk h0 (by omega) (by omega) (λi hi'=>by rw [hLl];exact hi.pl i hi') (zLg hV hi.mm (by omega)) ht).mono λe w' h=>good e w' h
theorem StOf.put2 {B gs base:Nat} {s:PS} {bb c:Bool} {w W0:World} (h:StOf B gs base s bb w) (hb:Below w.heap.size w W0):StOf B gs base s c (W0.setCell ⟨gs,2,none⟩ (.bool c))/\Below B w (W0.setCell ⟨gs,2,none⟩ (.bool c))/\∀k,k<w.heap.size->k≠gs->(W0.setCell ⟨gs,2,none⟩ (.bool c)).heap[k]?=w.heap[k]?:=by
 obtain ⟨⟨hi2,L,Vn,Vo,hV,hst⟩⟩:=h;have hab:=hst.above;have h2:=hst.below hb (Nat.le_refl _) (Nat.le_trans hst.gr.sz hb.size);have hlo:=hst.lo;have hoth:∀q,q≠gs->(W0.setCell ⟨gs,2,none⟩ (.bool c)).heap[q]?=W0.heap[q]?:=λq hq=>heap_setCell_other _ _ _ _ hq
 exact ⟨⟨hi2,L,Vn,Vo,hV,heap_setCell_same W0 gs 2 _ _ _ h2.box,h2.gr.keep (λq hq _=>hoth q (by omega)) (Nat.le_refl _) (by have:=h2.gr.sz;simpa [World.setCell] using this),hst.lo⟩,(hb.mono hab.1).setCell (p:=⟨gs,2,none⟩) hlo.1 _,λk hk hne=>(hoth k hne).trans (hb.block k hk)⟩
theorem zEh:(prog.info? 131).map (·.size)=some 4:=by kernel_rfl
theorem StOf.cells {B gs base:Nat} {s:PS} {bb:Bool} {w:World} (h:StOf B gs base s bb w):∃Vn Vo,w.heap[gs]?=some (.cells #[Vn,Vo,.bool bb] 180 (0,0))/\B<=gs/\gs<w.heap.size:=by
 obtain ⟨⟨hi2,L,Vn,Vo,hV,hst⟩⟩:=h;exact ⟨Vn,Vo,hst.box,hst.lo.1,hst.above.2.1⟩
theorem zIH (B gs base:Nat) (s:PS) (bb:Bool) (K:Nat) (t:Tk) (x u:ByteArray) (A:Option Addr) (cp:Nat) (w:World) (h:StOf B gs base s bb w) (hi:PSb K s) (hK:K<=100000) (ht:TkAt t x u A cp w) (hBl:TkAt t x u A cp w->∀W,(∀k,k<B->W.heap[k]?=w.heap[k]?)->w.heap.size<=W.heap.size->TkAt t x u A cp W) (hk:t.kind=2) :
 Calls prog 145 #[.pointer (some ⟨gs,0,none⟩),TkV t x u A cp] w (zCD B gs base false (zBA s bb t) w):=by
 obtain ⟨na,hna⟩:∃na,t.attrs.length=na:=⟨_,rfl⟩;obtain ⟨Vn,Vo,hbox,hgs1,hgs2⟩:=h.cells;have ht0:((2:Nat):Int)=2:=rfl;unfold TkV;rw [hna,hk,ht0];obtain ⟨W0,hW0⟩:∃W0,w.alloc (.cells #[.int .u8 2,.string x,.slice A na cp,.string u] 131)=W0:=⟨_,rfl⟩;have HBE:Hid (Below w.heap.size w W0):=hI (by rw [←hW0];exact stpA (Below.refl _ _) _);have HTB:Hid (W0.heap[w.heap.size]?=some (.cells #[.int .u8 2,.string x,.slice A na cp,.string u] 131 (0,0))):=hI (by rw [←hW0];exact heap_alloc_new _ _);obtain ⟨hp1,hp2,hp3⟩:=h.put2 (c:=false) HBE.out;obtain ⟨W1,hW1⟩:∃W1,W0.setCell ⟨gs,2,none⟩ (.bool false)=W1:=⟨_,rfl⟩;rw [hW1] at hp1 hp2 hp3;have g2:=zAA W0 _ 2 _ _ _ (zAB hbox HBE.out);have f2:=zAZ W0 gs 2 _ _ (zAB hbox HBE.out);have t0:=zAA W0 _ 0 _ _ _ HTB.out;have htb1:W1.heap[w.heap.size]?=some (.cells #[.int .u8 2,.string x,.slice A na cp,.string u] 131 (0,0)):=by rw [←hW1];exact (heap_setCell_other _ _ _ _ (by show w.heap.size≠gs;omega)).trans HTB.out
 have HTB1:=hI htb1;have u0:=zAA W1 _ 0 _ _ _ htb1;have u1:=zAA W1 _ 1 _ _ _ htb1;have u3:=zAA W1 _ 3 _ _ _ htb1;obtain ⟨Vn1,Vo1,hbox1,_,_⟩:=hp1.cells;have v2:=zAA W1 _ 2 _ _ _ hbox1;have HBB:=hI hp2;have HC:=hI (zOC B gs base s false bb K t x W1 hp1 hi hK ht.name hk);clear h hi ht hbox hp1 hp2 hp3 htb1 hbox1 hBl
 go_enter func145,ntmps145
 go_wp2_with (first
  | (go_at_call 177;(try rw [hW1]);(with_reducible refine (HC.out).mono ?_);rintro e5 w5 ⟨r,rfl,hb5,hx5⟩)
  | fail)
 go_ret
 exact ⟨r,rfl,HBB.out.trans hb5,hx5⟩
theorem zJG (B gs base:Nat) (s:PS) (bb:Bool) (K:Nat) (t:Tk) (x u:ByteArray) (A:Option Addr) (cp:Nat) (w:World) (h:StOf B gs base s bb w) (hi:PSb K s) (hK:K<=100000) (ht:TkAt t x u A cp w) (hBl:TkAt t x u A cp w->∀W,(∀k,k<B->W.heap[k]?=w.heap[k]?)->w.heap.size<=W.heap.size->TkAt t x u A cp W) (hk:t.kind=4) (hbb:bb=true) :
 Calls prog 145 #[.pointer (some ⟨gs,0,none⟩),TkV t x u A cp] w (zCD B gs base true (zBA s bb t) w):=by
 obtain ⟨na,hna⟩:∃na,t.attrs.length=na:=⟨_,rfl⟩;obtain ⟨Vn,Vo,hbox,hgs1,hgs2⟩:=h.cells;have ht0:((4:Nat):Int)=4:=rfl;subst hbb;unfold TkV;rw [hna,hk,ht0];obtain ⟨W0,hW0⟩:∃W0,w.alloc (.cells #[.int .u8 4,.string x,.slice A na cp,.string u] 131)=W0:=⟨_,rfl⟩;have HBE:Hid (Below w.heap.size w W0):=hI (by rw [←hW0];exact stpA (Below.refl _ _) _);have HTB:Hid (W0.heap[w.heap.size]?=some (.cells #[.int .u8 4,.string x,.slice A na cp,.string u] 131 (0,0))):=hI (by rw [←hW0];exact heap_alloc_new _ _);obtain ⟨hp1,hp2,hp3⟩:=h.put2 (c:=true) HBE.out;obtain ⟨W1,hW1⟩:∃W1,W0.setCell ⟨gs,2,none⟩ (.bool true)=W1:=⟨_,rfl⟩;rw [hW1] at hp1 hp2 hp3;have g2:=zAA W0 _ 2 _ _ _ (zAB hbox HBE.out);have f2:=zAZ W0 gs 2 _ _ (zAB hbox HBE.out);have t0:=zAA W0 _ 0 _ _ _ HTB.out;have htb1:W1.heap[w.heap.size]?=some (.cells #[.int .u8 4,.string x,.slice A na cp,.string u] 131 (0,0)):=by rw [←hW1];exact (heap_setCell_other _ _ _ _ (by show w.heap.size≠gs;omega)).trans HTB.out
 have HTB1:=hI htb1;have u0:=zAA W1 _ 0 _ _ _ htb1;have u1:=zAA W1 _ 1 _ _ _ htb1;have u3:=zAA W1 _ 3 _ _ _ htb1;obtain ⟨Vn1,Vo1,hbox1,_,_⟩:=hp1.cells;have v2:=zAA W1 _ 2 _ _ _ hbox1;have HBB:=hI hp2;have hse:zBA s true t=.error 80:=by unfold zBA;rw [if_pos hk,if_pos rfl]
 rw [hse];clear h hi ht hbox hp1 hp2 hp3 htb1 hbox1 hBl
 go_enter func145,ntmps145
 go_wp2_with (first
  | fail)
 go_ret
 (try rw [hW1])
 exact zCD.err HBB.out
theorem zGi (B gs base:Nat) (s:PS) (bb:Bool) (K:Nat) (t:Tk) (x u:ByteArray) (A:Option Addr) (cp:Nat) (w:World) (h:StOf B gs base s bb w) (hi:PSb K s) (hK:K<=100000) (ht:TkAt t x u A cp w) (hBl:TkAt t x u A cp w->∀W,(∀k,k<B->W.heap[k]?=w.heap[k]?)->w.heap.size<=W.heap.size->TkAt t x u A cp W) (hk:t.kind=4) (hbb:bb=false) :
 Calls prog 145 #[.pointer (some ⟨gs,0,none⟩),TkV t x u A cp] w (zCD B gs base true (zBA s bb t) w):=by
 obtain ⟨na,hna⟩:∃na,t.attrs.length=na:=⟨_,rfl⟩;obtain ⟨Vn,Vo,hbox,hgs1,hgs2⟩:=h.cells;have ht0:((4:Nat):Int)=4:=rfl;subst hbb;unfold TkV;rw [hna,hk,ht0];obtain ⟨W0,hW0⟩:∃W0,w.alloc (.cells #[.int .u8 4,.string x,.slice A na cp,.string u] 131)=W0:=⟨_,rfl⟩;have HBE:Hid (Below w.heap.size w W0):=hI (by rw [←hW0];exact stpA (Below.refl _ _) _);have HTB:Hid (W0.heap[w.heap.size]?=some (.cells #[.int .u8 4,.string x,.slice A na cp,.string u] 131 (0,0))):=hI (by rw [←hW0];exact heap_alloc_new _ _);obtain ⟨hp1,hp2,hp3⟩:=h.put2 (c:=true) HBE.out;obtain ⟨W1,hW1⟩:∃W1,W0.setCell ⟨gs,2,none⟩ (.bool true)=W1:=⟨_,rfl⟩;rw [hW1] at hp1 hp2 hp3;have g2:=zAA W0 _ 2 _ _ _ (zAB hbox HBE.out);have f2:=zAZ W0 gs 2 _ _ (zAB hbox HBE.out);have t0:=zAA W0 _ 0 _ _ _ HTB.out;have htb1:W1.heap[w.heap.size]?=some (.cells #[.int .u8 4,.string x,.slice A na cp,.string u] 131 (0,0)):=by rw [←hW1];exact (heap_setCell_other _ _ _ _ (by show w.heap.size≠gs;omega)).trans HTB.out
 have HTB1:=hI htb1;have u0:=zAA W1 _ 0 _ _ _ htb1;have u1:=zAA W1 _ 1 _ _ _ htb1;have u3:=zAA W1 _ 3 _ _ _ htb1;obtain ⟨Vn1,Vo1,hbox1,_,_⟩:=hp1.cells;have v2:=zAA W1 _ 2 _ _ _ hbox1;have HBB:=hI hp2;have HC:=hI (zMv B gs base s true K t u W1 hp1 hi hK ht.text ht.us hk);clear h hi ht hbox hp1 hp2 hp3 htb1 hbox1 hBl
 go_enter func145,ntmps145
 go_wp2_with (first
  | (go_at_call 179;(try rw [hW1]);(with_reducible refine (HC.out).mono ?_);rintro e5 w5 ⟨r,rfl,hb5,hx5⟩)
  | fail)
 go_ret
 exact ⟨r,rfl,HBB.out.trans hb5,hx5⟩
theorem zDi (B gs base:Nat) (s:PS) (bb:Bool) (K:Nat) (t:Tk) (x u:ByteArray) (A:Option Addr) (cp:Nat) (w:World) (h:StOf B gs base s bb w) (hi:PSb K s) (hK:K<=100000) (ht:TkAt t x u A cp w) (hBl:TkAt t x u A cp w->∀W,(∀k,k<B->W.heap[k]?=w.heap[k]?)->w.heap.size<=W.heap.size->TkAt t x u A cp W) (hk:t.kind=1∨t.kind=3) :
 Calls prog 145 #[.pointer (some ⟨gs,0,none⟩),TkV t x u A cp] w (zCD B gs base false (zBA s bb t) w):=by
 obtain ⟨na,hna⟩:∃na,t.attrs.length=na:=⟨_,rfl⟩;obtain ⟨Vn,Vo,hbox,hgs1,hgs2⟩:=h.cells;obtain ⟨tk,htk⟩:∃tk,t.kind=tk:=⟨_,rfl⟩;have bt1:((tk:Int)==2)=false:=by simp;omega
 have bt2:((tk:Int)==4)=false:=by simp;omega
 have bt3:¬(tk:Int)=2:=by omega
 have bt4:¬(tk:Int)=4:=by omega
 unfold TkV;rw [hna,htk];obtain ⟨W0,hW0⟩:∃W0,w.alloc (.cells #[.int .u8 (tk:Int),.string x,.slice A na cp,.string u] 131)=W0:=⟨_,rfl⟩;have HBE:Hid (Below w.heap.size w W0):=hI (by rw [←hW0];exact stpA (Below.refl _ _) _);have HTB:Hid (W0.heap[w.heap.size]?=some (.cells #[.int .u8 (tk:Int),.string x,.slice A na cp,.string u] 131 (0,0))):=hI (by rw [←hW0];exact heap_alloc_new _ _);obtain ⟨hp1,hp2,hp3⟩:=h.put2 (c:=false) HBE.out;obtain ⟨W1,hW1⟩:∃W1,W0.setCell ⟨gs,2,none⟩ (.bool false)=W1:=⟨_,rfl⟩;rw [hW1] at hp1 hp2 hp3;have g2:=zAA W0 _ 2 _ _ _ (zAB hbox HBE.out);have f2:=zAZ W0 gs 2 _ _ (zAB hbox HBE.out);have t0:=zAA W0 _ 0 _ _ _ HTB.out;have htb1:W1.heap[w.heap.size]?=some (.cells #[.int .u8 (tk:Int),.string x,.slice A na cp,.string u] 131 (0,0)):=by rw [←hW1];exact (heap_setCell_other _ _ _ _ (by show w.heap.size≠gs;omega)).trans HTB.out
 have HTB1:=hI htb1;have u0:=zAA W1 _ 0 _ _ _ htb1;have u1:=zAA W1 _ 1 _ _ _ htb1;have u3:=zAA W1 _ 3 _ _ _ htb1;obtain ⟨Vn1,Vo1,hbox1,_,_⟩:=hp1.cells;have v2:=zAA W1 _ 2 _ _ _ hbox1;have HBB:=hI hp2;have HC:=hI (zLK B gs base s false bb K t x u A cp W1 hp1 hi hK (hBl ht W1 (λk hk=>hp3 k (by omega) (by omega)) (by rw [←hW1];have:=HBE.out.size;simpa [World.setCell] using this)) hk);unfold TkV at HC;rw [hna,htk] at HC;clear h hi ht hbox hp1 hp2 hp3 htb1 hbox1 hBl
 go_enter func145,ntmps145
 go_wp2_with (first
  | (go_at_call 178;(try rw [hW1]);(with_reducible refine (HC.out).mono ?_);rintro e5 w5 ⟨r,rfl,hb5,hx5⟩)
  | (refine wpList_load_row rfl _ _ rfl w.heap.size rfl 131 #[.int .u8 (tk:Int),.string x,.slice A na cp,.string u] (0,0) _ HTB1.out underlying131 rfl zEh ?_)
  | fail)
 go_ret
 exact ⟨r,rfl,HBB.out.trans hb5,hx5⟩
theorem zPb {w:World} {B:Nat} {A:Option Addr} {l:List Tk} {k:Nat} (hr:RdC TkC w B A l) (hk:k<l.length) (hs:zCr (l[k]'hk)) :
 ∃(b off:Nat) (x u:ByteArray) (A1:Option Addr) (p1:Nat),A=some ⟨b,off,none⟩/\b<B/\w.cell? ⟨b,off+k*4,none⟩=some (.int .u8 ((l[k]'hk).kind:Int))/\w.cell? ⟨b,off+k*4+1,none⟩=some (.string x) ∧
  w.cell? ⟨b,off+k*4+2,none⟩=some (.slice A1 (l[k]'hk).attrs.length p1)/\w.cell? ⟨b,off+k*4+3,none⟩=some (.string u)/\∀W:World,(∀q,q<B->W.heap[q]?=w.heap[q]?)->B<=W.heap.size->TkAt (l[k]'hk) x u A1 p1 W:=by
 obtain ⟨b,off,e,hb,hc⟩:=hr (by omega);obtain ⟨cs,⟨x,A1,p1,u,rfl,hkd,hx,hu,hle,hmx,hnl,hrd⟩,hcell⟩:=hc k hk;obtain ⟨s1,s2,s3,s4⟩:=hs;refine ⟨b,off,x,u,A1,p1,e,hb,hcell 0 (by simp),hcell 1 (by simp),hcell 2 (by simp),hcell 3 (by simp),λW hW hB=>⟨hx,hu,hrd.keep hB λb o hb=>zAq (hW b hb),hle,?_,?_,s3,s4⟩⟩
 · rw [←zAV,hx];exact s1
 · rw [←zAV,hu];exact s2
theorem zGq {t:Tk} (h:mayT t=true):t.kind=1∨t.kind=2∨t.kind=3∨t.kind=4:=by
 unfold mayT at h
 split at h
 · omega
 · split at h
   · omega
   · split at h
     · omega
     · cases h
theorem zQ0 (B gs base:Nat) (s:PS) (bb:Bool) (K:Nat) (t:Tk) (x u:ByteArray) (A:Option Addr) (cp:Nat) (w:World) (h:StOf B gs base s bb w) (hi:PSb K s) (hK:K<=100000) (ht:TkAt t x u A cp w) (hBl:∀W,(∀k,k<B->W.heap[k]?=w.heap[k]?)->w.heap.size<=W.heap.size->TkAt t x u A cp W) (hk:t.kind=1∨t.kind=2∨t.kind=3∨t.kind=4) :
 Calls prog 145 #[.pointer (some ⟨gs,0,none⟩),TkV t x u A cp] w (zCD B gs base (decide (t.kind=4)) (zBA s bb t) w):=by
 rcases hk with hk | hk | hk | hk
 · rw [decide_eq_false (by omega)]
   exact zDi B gs base s bb K t x u A cp w h hi hK ht (λ_=>hBl) (.inl hk)
 · rw [decide_eq_false (by omega)]
   exact zIH B gs base s bb K t x u A cp w h hi hK ht (λ_=>hBl) hk
 · rw [decide_eq_false (by omega)]
   exact zDi B gs base s bb K t x u A cp w h hi hK ht (λ_=>hBl) (.inr hk)
 · rw [decide_eq_true hk]
   cases bb with
   | true=>exact zJG B gs base s true K t x u A cp w h hi hK ht (λ_=>hBl) hk rfl
   | false=>exact zGi B gs base s false K t x u A cp w h hi hK ht (λ_=>hBl) hk rfl
def zPS (B gs base:Nat) (x:Except Int PS) (w:World) (e:Ending) (w':World):Prop:=∃r:Int,e=.returned (.int .i64 r)/\Below B w w'∧match x with
 | .error q=>r=q/\r≠0
 | .ok s=>r=0/\∃b,StOf B gs base s b w'
theorem zLV (B gs base:Nat) (K:Nat) (s0:PS) (b0':Bool) (ts:List Tk) (A:Option Addr) (n c:Nat) (w:World) (h:StOf B gs base s0 b0' w) (hi:PSb K s0) (hK:K+n<=100000) (hn:ts.length=n) (hrd:RdC TkC w B A ts) (hBz:B<=w.heap.size) (hsm:∀t∈ts,zCr t) (hkd:∀t∈ts,t.kind=1∨t.kind=2∨t.kind=3∨t.kind=4) :
 Calls prog 144 #[.slice A n c,.func (.func 145) #[.pointer (some ⟨gs,0,none⟩)] #[]] w (zPS B gs base (runP s0 b0' ts) w):=by
 have HST:=hI h;have HPS:=hI hi;have HN:=hI hn;have HRD:=hI hrd;have HBZ:=hI hBz;have HSM:=hI hsm;have HKD:=hI hkd;have bK:(K:Int)+(n:Int)<=100000:=by omega
 clear h hi hn hrd hBz hsm hkd
 go_enter func144,ntmps144
 go_wp2_with fail
 go_loopg [10] n (λgg i wr=>∃(j:Nat) (s:PS) (bb:Bool),j+gg=n/\i=.int .i64 j/\runP s0 b0' ts=runP s bb (ts.drop j)/\StOf B gs base s bb wr/\PSb (K+j) s/\Below B w wr)
 case atStart=>exact ⟨0,s0,b0',by omega,rfl,by rw [List.drop_zero],HST.out,HPS.out,Below.refl _ _⟩
 case round =>
  obtain ⟨j,s,bb,hjg,rfl,hrun,hst0,hps,hbw⟩:=hrel;have HBW:=hI hbw;have HRUN:=hI hrun
  by_cases hlt:j<n
  · have hlt2:(j:Int)<(n:Int):=by omega
    have hjl:j<ts.length:=by rw [HN.out];exact hlt
    have hsj:=HSM.out _ (List.getElem_mem hjl);have hkj:=HKD.out _ (List.getElem_mem hjl);obtain ⟨b0,off,x,u,A1,p1,hA,hb0,hc0,hc1,hc2,hc3,hTA⟩:=zPb HRD.out hjl hsj;obtain ⟨t,ht⟩:∃t,ts[j]'hjl=t:=⟨_,rfl⟩;rw [ht] at hc0 hc2 hTA hkj;obtain ⟨na,hna⟩:∃na,t.attrs.length=na:=⟨_,rfl⟩;obtain ⟨kd,hkd⟩:∃kd,t.kind=kd:=⟨_,rfl⟩;rw [hkd] at hc0;rw [hna] at hc2;have hst:∀o,wr.cell? ⟨b0,o,none⟩=w.cell? ⟨b0,o,none⟩:=λo=>zAq (HBW.out.block b0 hb0)
    have q0:=(hst _).trans hc0;have q1:=(hst _).trans hc1;have q2:=(hst _).trans hc2;have q3:=(hst _).trans hc3;obtain ⟨W4,hW4⟩:∃W4,wr.alloc (.cells #[.int .u8 (kd:Int),.string x,.slice A1 na p1,.string u] 131)=W4:=⟨_,rfl⟩;have HB4:Hid (Below wr.heap.size wr W4):=hI (by rw [←hW4];exact stpA (Below.refl _ _) _);have HX4:Hid (W4.heap[wr.heap.size]?=some (.cells #[.int .u8 (kd:Int),.string x,.slice A1 na p1,.string u] 131 (0,0))):=hI (by rw [←hW4];exact heap_alloc_new wr _);have hW4B:Below B w W4:=HBW.out.trans (HB4.out.mono (Nat.le_trans HBZ.out HBW.out.size));have hdr:=List.drop_eq_getElem_cons hjl;rw [ht] at hdr;have hTA4:∀W,(∀k,k<B->W.heap[k]?=W4.heap[k]?)->W4.heap.size<=W.heap.size->TkAt t x u A1 p1 W:=λW h1 h2=>hTA W (λq hq=>(h1 q hq).trans (hW4B.block q hq)) (Nat.le_trans (Nat.le_trans HBZ.out hW4B.size) h2)
    have hs4:StOf B gs base s bb W4:=by
     obtain ⟨⟨hi2,L,Vn,Vo,hV,hs⟩⟩:=hst0;exact ⟨hi2,L,Vn,Vo,hV,hs.below HB4.out (Nat.le_refl _) (Nat.le_trans hs.gr.sz HB4.out.size)⟩
    have HC0:=zQ0 B gs base s bb (K+j) t x u A1 p1 W4 hs4 hps (by omega) (hTA4 W4 (λ_ _=>rfl) (Nat.le_refl _)) hTA4 hkj;have HBB:=hI hW4B;rw [hdr] at hrun;unfold TkV at HC0;rw [hna,hkd] at HC0;subst hA
    cases hx:zBA s bb t with
    | error q =>
     have HC:=hI (HC0.mono (R':=λe w'=>e=.returned (.int .i64 q)/\Below B W4 w') λe w' h=>by
      obtain ⟨r,h1,h2,h3⟩:=h;rw [hx] at h3;exact ⟨by rw [h1,h3],h2⟩)
     have hq0:q≠0:=by rcases zHj hx with h | h <;> omega
     have fq:(q==0)=false:=by simp;omega
     have HR:Hid (runP s0 b0' ts=.error q):=hI (by rw [hrun,runP,hx]);clear hsj hkj hc0 hc1 hc2 hc3 hTA hna hst hW4B hdr hTA4 hs4 hst0 hps hbw hrun HRUN hb0 HC0 hx
     go_wp2_with (first
      | (refine wpList_load_row rfl _ _ rfl wr.heap.size rfl 131 #[.int .u8 (kd:Int),.string x,.slice A1 na p1,.string u] (0,0) _ HX4.out underlying131 rfl zEh ?_)
      | (go_at_call 145;(with_reducible refine (HC.out).mono ?_);rintro e5 w5 ⟨rfl,hb5⟩;have HB5:=hI (HBB.out.trans hb5);clear hb5)
      | fail)
     go_ret
     rw [HR.out];exact ⟨q,rfl,HB5.out,rfl,hq0⟩
    | ok s' =>
     have HC:=hI (HC0.mono (R':=λe w'=>e=.returned (.int .i64 0)/\Below B W4 w'∧StOf B gs base s' (decide (t.kind=4)) w') λe w' h=>by
      obtain ⟨r,h1,h2,h3⟩:=h;rw [hx] at h3;exact ⟨by rw [h1,h3.1],h2,by rw [hkd];exact ⟨h3.2⟩⟩)
     have HR:Hid (runP s0 b0' ts=runP s' (decide (t.kind=4)) (ts.drop (j+1))):=hI (by rw [hrun,runP,hx]);have HMORE:Hid (PSb (K+(j+1)) s'):=hI (hps.more hx);clear hsj hkj hc0 hc1 hc2 hc3 hTA hna hst hW4B hdr hTA4 hs4 hst0 hps hbw hrun HRUN hb0 HC0 hx
     go_wp2_with (first
      | (refine wpList_load_row rfl _ _ rfl wr.heap.size rfl 131 #[.int .u8 (kd:Int),.string x,.slice A1 na p1,.string u] (0,0) _ HX4.out underlying131 rfl zEh ?_)
      | (go_at_call 145;(with_reducible refine (HC.out).mono ?_);rintro e5 w5 ⟨rfl,hb5,hs5⟩;have HB5:=hI (HBB.out.trans hb5);have HS5:=hI hs5;clear hb5 hs5)
      | fail)
     go_roundg (gk - 1)
     case measure=>omega
     case rel=>exact ⟨j+1,s',_,by omega,by go_num,HR.out,HS5.out,HMORE.out,HB5.out⟩
  · obtain rfl:j=n:=by omega
    have hjj:¬((j:Int)<(j:Int)):=by omega
    rw [List.drop_of_length_le (by rw [HN.out];exact Nat.le_refl _),runP] at hrun;have HR:=hI hrun;have HS:=hI hst0;clear hst0 hps hbw hrun
    go_wp2_with fail
    go_ret
    rw [HR.out];exact ⟨0,rfl,HBW.out,rfl,bb,HS.out⟩
theorem zKh (ts:List Tk) (A:Option Addr) (n c:Nat) (w:World) (hn:ts.length=n) (hm:n<=100000) (hr:RdC TkC w w.heap.size A ts) (hsm:∀t∈ts,zCr t) (q:Int) (hq:(if ts.all mayT=true then (0:Int) else 8)=q) :
 Calls prog 144 #[.slice A n c,.func (.func 138) #[] #[]] w λe w'=>e=.returned (.int .i64 q)/\Below w.heap.size w w':=by
 have HN:=hI hn;have HRD:=hI hr;have HSM:=hI hsm;have HQ:=hI hq;have bn:(n:Int)<=100000:=by omega
 clear hn hr hsm hq
 go_enter func144,ntmps144
 go_wp2_with fail
 go_loopg [10] n (λgg i wr=>∃j:Nat,j+gg=n/\i=.int .i64 j/\(ts.take j).all mayT=true/\Below w.heap.size w wr)
 case atStart=>exact ⟨0,by omega,rfl,rfl,Below.refl _ _⟩
 case round =>
  obtain ⟨j,hjg,rfl,hall,hbw⟩:=hrel;have HBW:=hI hbw;have HBZ:Hid (w.heap.size<=w.heap.size):=hI (Nat.le_refl _)
  by_cases hlt:j<n
  · have hlt2:(j:Int)<(n:Int):=by omega
    have hjl:j<ts.length:=by rw [HN.out];exact hlt
    have hsj:=HSM.out _ (List.getElem_mem hjl);obtain ⟨b0,off,x,u,A1,p1,hA,hb0,hc0,hc1,hc2,hc3,hTA⟩:=zPb HRD.out hjl hsj;obtain ⟨t,ht⟩:∃t,ts[j]'hjl=t:=⟨_,rfl⟩;rw [ht] at hc0 hc2 hTA;obtain ⟨na,hna⟩:∃na,t.attrs.length=na:=⟨_,rfl⟩;obtain ⟨kd,hkd⟩:∃kd,t.kind=kd:=⟨_,rfl⟩;rw [hkd] at hc0;rw [hna] at hc2;have hst:∀o,wr.cell? ⟨b0,o,none⟩=w.cell? ⟨b0,o,none⟩:=λo=>zAq (HBW.out.block b0 hb0)
    have q0:=(hst _).trans hc0;have q1:=(hst _).trans hc1;have q2:=(hst _).trans hc2;have q3:=(hst _).trans hc3;obtain ⟨W4,hW4⟩:∃W4,wr.alloc (.cells #[.int .u8 (kd:Int),.string x,.slice A1 na p1,.string u] 131)=W4:=⟨_,rfl⟩;have HB4:Hid (Below wr.heap.size wr W4):=hI (by rw [←hW4];exact stpA (Below.refl _ _) _);have HX4:Hid (W4.heap[wr.heap.size]?=some (.cells #[.int .u8 (kd:Int),.string x,.slice A1 na p1,.string u] 131 (0,0))):=hI (by rw [←hW4];exact heap_alloc_new wr _);have hW4B:Below w.heap.size w W4:=HBW.out.trans (HB4.out.mono HBW.out.size);have hdr:=List.drop_eq_getElem_cons hjl;rw [ht] at hdr;have hC:∀q,zEg t=q->Calls prog 138 #[TkV t x u A1 p1] W4 λe w'=>e=.returned (.int .i64 q)/\Below W4.heap.size W4 w':=λq hq=>zNX t x u A1 p1 W4 (hTA W4 (λq hq=>hW4B.block q hq) hW4B.size) q hq
    unfold TkV at hC;rw [hna,hkd] at hC;have HBB:=hI hW4B;subst hA
    cases hx:mayT t with
    | false =>
     have HC:=hI (hC 8 (by unfold zEg;rw [hx];rfl))
     obtain rfl:q=8:=by
      rw [←HQ.out,if_neg];intro h;have:=List.all_eq_true.1 h _ (List.getElem_mem hjl);rw [ht,hx] at this
      cases this
     clear hsj hc0 hc1 hc2 hc3 hTA hna hst hW4B hdr hbw hall hb0 hC hx
     go_wp2_with (first
      | (refine wpList_load_row rfl _ _ rfl wr.heap.size rfl 131 #[.int .u8 (kd:Int),.string x,.slice A1 na p1,.string u] (0,0) _ HX4.out underlying131 rfl zEh ?_)
      | (go_at_call 138;(with_reducible refine (HC.out).mono ?_);rintro e5 w5 ⟨rfl,hb5⟩;have HB5:=hI (stp HBB.out hb5);clear hb5)
      | fail)
     go_ret
     exact ⟨rfl,HB5.out⟩
    | true =>
     have HC:=hI (hC 0 (by unfold zEg;rw [hx];rfl));have HA2:Hid ((ts.take (j+1)).all mayT=true):=hI (by rw [List.take_succ_eq_append_getElem hjl,List.all_append,hall,ht];simp [hx]);clear hsj hc0 hc1 hc2 hc3 hTA hna hst hW4B hdr hbw hall hb0 hC hx
     go_wp2_with (first
      | (refine wpList_load_row rfl _ _ rfl wr.heap.size rfl 131 #[.int .u8 (kd:Int),.string x,.slice A1 na p1,.string u] (0,0) _ HX4.out underlying131 rfl zEh ?_)
      | (go_at_call 138;(with_reducible refine (HC.out).mono ?_);rintro e5 w5 ⟨rfl,hb5⟩;have HB5:=hI (stp HBB.out hb5);clear hb5)
      | fail)
     go_roundg (gk - 1)
     case measure=>omega
     case rel=>exact ⟨j+1,by omega,by go_num,HA2.out,HB5.out⟩
  · obtain rfl:j=n:=by omega
    have hjj:¬((j:Int)<(j:Int)):=by omega
    obtain rfl:q=0:=by
     rw [←HQ.out];rw [←HN.out,List.take_length] at hall;rw [if_pos hall]
    clear hall hbw
    go_wp2_with fail
    go_ret
    exact ⟨rfl,HBW.out⟩
def zCC (ts:List Tk) (w:World) (e:Ending) (w':World):Prop:=∃(v:List Nd) (q:Int) (A:Option Addr) (c:Nat),zBE ts=(v,q)/\e=.returned (.tuple #[.slice A v.length c,.int .i64 q])/\RdB NdS w' A v/\v.length<=c/\c<=maxLen/\(A=none->c=0)/\Below w.heap.size w w'
theorem zCC.bad {ts:List Tk} {w w':World} {q:Int} (h:zBE ts=([],q)) (hb:Below w.heap.size w w'):zCC ts w (.returned (.tuple #[.slice none 0 0,.int .i64 q])) w':=⟨[],q,none,0,h,rfl,RdS.nil _ _ _,Nat.le_refl _,Nat.zero_le _,λ_=>rfl,hb⟩
theorem GrSt.read {base hi:Nat} {L:List NB} {O:List Nat} {A:Option Addr} {n c:Nat} {Vo:Value} {wr:World} (h:GrSt base hi L O (.slice A n c) Vo wr):RdB NdS wr A (L.map NB.n)/\L.length=n/\n<=c/\c<=maxLen/\(A=none->c=0):=by
 have hl:L.length=n:=by
  have h1:=h.nd;rcases h1.2 with ⟨e,h0⟩ | ⟨g,cap,cur,hv,_⟩
  · injection e with _ e _;omega
  · injection hv with _ e _;exact e.symm
 have hnd:=h.nd;rw [hl] at hnd;have:=RdS.of_own (C:=NdS) (S:=λb=>b<wr.heap.size) zAL NB.n (λ_=>rfl) (by decide) L (λb hb=>⟨b.x,b.y,b.z,b.A,b.c,rfl,(h.inn b hb).keep (λk hk=>Nat.lt_of_lt_of_le hk.2.1 h.sz) λ_ _ _=>rfl⟩) (λg hg=>(hnd.lt g hg).2) hnd;exact this
theorem zQP (A:Option Addr) (n c:Nat) (ts:List Tk) (w:World) (hr:RdC TkC w w.heap.size A ts) (hn:ts.length=n) (hmax:n<=9223372036854775807) (hsm:∀t∈ts,zCr t) :
 Calls prog 104 #[.slice A n c] w (zCC ts w):=by
 by_cases hlong:512<n
 · have hT:zBE ts=([],4):=by unfold zBE;rw [if_pos (by omega)]
   have f1:decide ((512:Int)<(n:Int))=true:=decide_eq_true (by omega);have HT:=hI hT;clear hr hn hmax hsm hT hlong
   go_enter func104,ntmps104
   go_wp2_with fail
   go_ret2
   exact zCC.bad HT.out (Below.refl _ _)
 · have f1:decide ((512:Int)<(n:Int))=false:=decide_eq_false (by omega)
   have hpar:zBE ts=if ts.all mayT=true then endP (runP ⟨[],[]⟩ false ts) else ([],8):=by unfold zBE;rw [if_neg (by omega)]
   have hCH:∀q,(if ts.all mayT=true then (0:Int) else 8)=q->Calls prog 144 #[.slice A n c,.func (.func 138) #[] #[]] w λe w'=>e=.returned (.int .i64 q)/\Below w.heap.size w w':=λq hq=>zKh ts A n c w hn (by omega) hr hsm q hq
   cases hall:ts.all mayT with
   | false =>
    have HC:=hI (hCH 8 (by rw [hall];rfl));have HT:Hid (zBE ts=([],8)):=hI (by rw [hpar,hall];rfl);clear hr hn hmax hsm hlong hpar hCH hall
    go_enter func104,ntmps104
    go_wp2_with (first
     | (go_at_call 144;(with_reducible refine (HC.out).mono ?_);rintro e1 w1 ⟨rfl,hb1⟩;have HB1:=hI hb1;clear hb1)
     | fail)
    go_ret2
    exact zCC.bad HT.out HB1.out
   | true =>
    have HC:=hI (hCH 0 (by rw [hall];rfl));rw [hall,if_pos rfl] at hpar;have hkd:∀t∈ts,t.kind=1∨t.kind=2∨t.kind=3∨t.kind=4:=λt ht=>zGq (List.all_eq_true.1 hall t ht)
    have hTK:∀W,Below w.heap.size w W->Calls prog 144 #[.slice A n c,.func (.func 145) #[.pointer (some ⟨W.heap.size,0,none⟩)] #[]] (W.alloc (.cells #[.slice none 0 0,.slice none 0 0,.bool false] 180)) (zPS w.heap.size W.heap.size (W.heap.size+1) (runP ⟨[],[]⟩ false ts) (W.alloc (.cells #[.slice none 0 0,.slice none 0 0,.bool false] 180))):=λW hW =>
     zLV w.heap.size W.heap.size (W.heap.size+1) 0 ⟨[],[]⟩ false ts A n c _ ⟨⟨W.heap.size+1,[],.slice none 0 0,.slice none 0 0,rfl,⟨heap_alloc_new W _,⟨World.ownsRow_nil _ _ _ _,World.ownsRow_nil _ _ _ _,(λq h=>by cases h),(λb hb=>by cases hb),Nat.le_refl _,by rw [World.size_alloc];exact Nat.le_refl _⟩,hW.size,Nat.lt_succ_self _⟩⟩⟩ PSb.nil (by omega) hn (hr.keep (Nat.le_refl _) λb o hb=>(hW.alloc hW.size _).cell (p:=⟨b,o,none⟩) hb) (by rw [World.size_alloc];exact Nat.le_succ_of_le hW.size) hsm hkd
    have HBA:Hid (∀W,Below w.heap.size w W->Below w.heap.size w (W.alloc (.cells #[.slice none 0 0,.slice none 0 0,.bool false] 180))):=hI λW hW=>hW.alloc hW.size _
    cases hx:runP ⟨[],[]⟩ false ts with
    | error q =>
     rw [hx] at hTK hpar;have hq0:q≠0:=by rcases zGa _ _ _ _ hx with h | h <;> omega
     have fq:(q==0)=false:=by simp;omega
     have HTK:Hid (∀W,Below w.heap.size w W->Calls prog 144 #[.slice A n c,.func (.func 145) #[.pointer (some ⟨W.heap.size,0,none⟩)] #[]] (W.alloc (.cells #[.slice none 0 0,.slice none 0 0,.bool false] 180)) λe w'=>e=.returned (.int .i64 q)/\Below w.heap.size (W.alloc (.cells #[.slice none 0 0,.slice none 0 0,.bool false] 180)) w'):=hI λW hW=>(hTK W hW).mono λe w' h=>by
      obtain ⟨r,h1,h2,h3⟩:=h;exact ⟨by rw [h1,h3.1],h2⟩
     have HT:Hid (zBE ts=([],q)):=hI (by rw [hpar];rfl);clear hr hn hmax hsm hlong hpar hCH hall hTK hkd hx
     go_enter func104,ntmps104
     go_wp2_with (first
      | (go_at_call 144;(with_reducible refine (HC.out).mono ?_);rintro e1 w1 ⟨rfl,hb1⟩;have HB1:=hI hb1;clear hb1)
      | (go_at_call 144;(with_reducible refine (HTK.out w1 HB1.out).mono ?_);rintro e2 w2 ⟨rfl,hb2⟩;have HB2:=hI ((HBA.out _ HB1.out).trans hb2);clear hb2)
      | fail)
     go_ret2
     exact zCC.bad HT.out HB2.out
    | ok s =>
     rw [hx] at hTK hpar
     have HTK:Hid (∀W,Below w.heap.size w W->Calls prog 144 #[.slice A n c,.func (.func 145) #[.pointer (some ⟨W.heap.size,0,none⟩)] #[]] (W.alloc (.cells #[.slice none 0 0,.slice none 0 0,.bool false] 180)) λe w'=>e=.returned (.int .i64 0)/\Below w.heap.size (W.alloc (.cells #[.slice none 0 0,.slice none 0 0,.bool false] 180)) w'∧∃(An:Option Addr) (cn:Nat) (Ao:Option Addr) (co:Nat) (b:Bool),w'.heap[W.heap.size]?=some (.cells #[.slice An s.V.length cn,.slice Ao s.O.length co,.bool b] 180 (0,0))/\RdB NdS w' An s.V/\s.V.length<=cn/\cn<=maxLen/\(An=none->cn=0)):=hI λW hW=>(hTK W hW).mono λe w' h=>by
      obtain ⟨r,h1,h2,h3,b,⟨hi2,L,Vn,Vo,hV,hst⟩⟩:=h;obtain ⟨An,cn,rfl⟩:=zAD hst.gr.nd;obtain ⟨Ao,co,rfl⟩:=zAD hst.gr.op;obtain ⟨r1,r2,r3,r4,r5⟩:=hst.gr.read;have hl:L.length=s.V.length:=by rw [←hV,List.length_map]
      rw [hV] at r1;exact ⟨by rw [h1,h3],h2,An,cn,Ao,co,b,by rw [←hl];exact hst.box,r1,by omega,r4,r5⟩
     obtain ⟨vn,hvn⟩:∃vn,s.V.length=vn:=⟨_,rfl⟩;obtain ⟨on,hon⟩:∃on,s.O.length=on:=⟨_,rfl⟩;rw [hvn,hon] at HTK;have HV:=hI hvn;have arms:=HTK;clear arms
     by_cases hend:s.V=[]∨s.O≠[]
     · have HT:Hid (zBE ts=([],80)):=hI (by rw [hpar];unfold endP;dsimp only;rw [if_pos hend])
       have hvo:vn=0∨0<on:=by
        rcases hend with h | h
        · left;rw [←hvn,h];rfl
        · right;rw [←hon];exact List.length_pos_iff.2 h
       clear hr hn hmax hsm hlong hpar hCH hall hTK hkd hx hend hvn hon;rcases hvo with rfl | hvo
       · go_enter func104,ntmps104
         go_wp2_with (first
          | (go_at_call 144;(with_reducible refine (HC.out).mono ?_);rintro e1 w1 ⟨rfl,hb1⟩;have HB1:=hI hb1;clear hb1)
          | (go_at_call 144;(with_reducible refine (HTK.out w1 HB1.out).mono ?_);rintro e2 w2 ⟨rfl,hb2,An,cn,Ao,co,b,hbox,-,-,-,-⟩;have HB2:=hI ((HBA.out _ HB1.out).trans hb2);have k0:=zAA w2 _ 0 _ _ _ hbox;have k1:=zAA w2 _ 1 _ _ _ hbox;clear hb2 hbox)
          | fail)
         go_ret2
         exact zCC.bad HT.out HB2.out
       · have hvo2:(0:Int)<(on:Int):=by omega
         by_cases hv0:vn=0
         · subst hv0
           go_enter func104,ntmps104
           go_wp2_with (first
            | (go_at_call 144;(with_reducible refine (HC.out).mono ?_);rintro e1 w1 ⟨rfl,hb1⟩;have HB1:=hI hb1;clear hb1)
            | (go_at_call 144;(with_reducible refine (HTK.out w1 HB1.out).mono ?_);rintro e2 w2 ⟨rfl,hb2,An,cn,Ao,co,b,hbox,-,-,-,-⟩;have HB2:=hI ((HBA.out _ HB1.out).trans hb2);have k0:=zAA w2 _ 0 _ _ _ hbox;have k1:=zAA w2 _ 1 _ _ _ hbox;clear hb2 hbox)
            | fail)
           go_ret2
           exact zCC.bad HT.out HB2.out
         · have fv:((vn:Int)==0)=false:=by simp;omega
           have fv2:¬(vn:Int)=0:=by omega
           go_enter func104,ntmps104
           go_wp2_with (first
            | (go_at_call 144;(with_reducible refine (HC.out).mono ?_);rintro e1 w1 ⟨rfl,hb1⟩;have HB1:=hI hb1;clear hb1)
            | (go_at_call 144;(with_reducible refine (HTK.out w1 HB1.out).mono ?_);rintro e2 w2 ⟨rfl,hb2,An,cn,Ao,co,b,hbox,-,-,-,-⟩;have HB2:=hI ((HBA.out _ HB1.out).trans hb2);have k0:=zAA w2 _ 0 _ _ _ hbox;have k1:=zAA w2 _ 1 _ _ _ hbox;clear hb2 hbox)
            | fail)
           go_ret2
           exact zCC.bad HT.out HB2.out
     · have HT:Hid (zBE ts=(s.V,0)):=hI (by rw [hpar];unfold endP;dsimp only;rw [if_neg hend])
       have fv:((vn:Int)==0)=false:=by
        simp
        intro h;exact hend (.inl (List.eq_nil_of_length_eq_zero (by omega)))
       have fv2:¬(vn:Int)=0:=by
        intro h;exact hend (.inl (List.eq_nil_of_length_eq_zero (by omega)))
       obtain rfl:on=0:=by
        rw [←hon]
        by_cases h:s.O=[]
        · rw [h];rfl
        · exact absurd (.inr h) hend
       clear hr hn hmax hsm hlong hpar hCH hall hTK hkd hx hend hvn hon
       go_enter func104,ntmps104
       go_wp2_with (first
        | (go_at_call 144;(with_reducible refine (HC.out).mono ?_);rintro e1 w1 ⟨rfl,hb1⟩;have HB1:=hI hb1;clear hb1)
        | (go_at_call 144;(with_reducible refine (HTK.out w1 HB1.out).mono ?_);rintro e2 w2 ⟨rfl,hb2,An,cn,Ao,co,b,hbox,hrd,hle,hcm,hnl⟩;have HB2:=hI ((HBA.out _ HB1.out).trans hb2);have k0:=zAA w2 _ 0 _ _ _ hbox;have k1:=zAA w2 _ 1 _ _ _ hbox;have HRD:=hI hrd;have HRE:=hI (And.intro hle (And.intro hcm hnl));clear hb2 hbox hrd hle hcm hnl)
        | fail)
       go_ret2
       exact ⟨s.V,0,An,cn,HT.out,by rw [HV.out];rfl,HRD.out,by rw [HV.out];exact HRE.out.1,HRE.out.2.1,HRE.out.2.2,HB2.out⟩
end Hx
namespace Hx
open Lx Tx Nmb Es
def isSp (x:Nat):Bool:=decide (x=32∨x=9∨x=10∨x=13)
def spc (x:Int):Int:=if x=32∨x=9∨x=10∨x=13 then 32 else x
theorem zOc {x:Nat} (h1:55296<=x) (h2:x<=57343):Lib.validRune (x:Int)=false:=by
 unfold Lib.validRune;exact decide_eq_false (by omega)
theorem zLf {x:Nat} (h:sv x=true):Lib.validRune (x:Int)=true:=by
 unfold Lib.validRune;unfold sv at h
 simp at h
 exact decide_eq_true (by omega)
theorem zM4 (x:Nat) (h1:55296<=x) (h2:x<=57343) (w:World) :
 Calls prog 264 #[.string ⟨#[32,9,10,13]⟩,.int .i32 x] w λe w'=>e=.returned (.int .i64 (-1))/\Below w.heap.size w w':=by
 have HV:Hid (Calls prog 270 #[.int .i32 x] w λe w'=>e=.returned (.bool false)/\w=w'):=hI ((Tryz.utf8_ValidRune x w).mono λe w' ⟨k1,k2⟩=>⟨by rw [k1,zOc h1 h2],k2.symm⟩);have g1:decide ((x:Int)<128)=false:=decide_eq_false (by omega);have g0:decide ((0:Int)<=(x:Int))=true:=decide_eq_true (by omega);have g2:((x:Int)==65533)=false:=by simp;omega
 clear h1 h2
 go_enter func264,ntmps264
 go_wp2_with (first
  | (go_at_call 270;(with_reducible refine (HV.out).mono ?_);rintro e1 w1 ⟨rfl,rfl⟩)
  | fail)
 go_ret
 exact ⟨rfl,Below.refl _ _⟩
theorem zSI (w:World) (pos:Nat) (h:pos<4):∃c:Nat,((c:Int)==65533)=false/\∀ty,(Instr.next (.pointer (some ⟨w.heap.size,0,none⟩)) true ty).run prog (w.iter ⟨#[32,9,10,13]⟩ pos)=.ok (.tuple #[.bool true,.int .i64 pos,.int .i32 c]) (w.iter ⟨#[32,9,10,13]⟩ (pos+1)):=by
 have h':pos<(⟨#[32,9,10,13]⟩:ByteArray).size:=h
 have hd:∃c:Nat,((c:Int)==65533)=false/\Utf8.decode ⟨#[32,9,10,13]⟩ pos=(c,1):=by
  rw [zDe _ pos h']
  match pos,h with
  | 0,_=>exact ⟨32,rfl,rfl⟩
  | 1,_=>exact ⟨9,rfl,rfl⟩
  | 2,_=>exact ⟨10,rfl,rfl⟩
  | 3,_=>exact ⟨13,rfl,rfl⟩
 obtain ⟨c,h1,h2⟩:=hd;refine ⟨c,h1,λty=>?_⟩;rw [run_next_any w _ pos ty h',h2]
theorem zMc (w:World) :
 Calls prog 264 #[.string ⟨#[32,9,10,13]⟩,.int .i32 65533] w λe w'=>e=.returned (.int .i64 (-1))/\Below w.heap.size w w':=by
 go_enter func264,ntmps264
 go_wp2_with fail
 go_loopg [5,6] 4 (λg x y wr=>∃pos:Nat,pos+g=4/\wr=w.iter ⟨#[32,9,10,13]⟩ pos)
 case atStart=>exact ⟨0,by omega,rfl⟩
 case round =>
  obtain ⟨pos,hg,rfl⟩:=hrel
  by_cases hlt:pos<4
  · obtain ⟨c,hc,hnx⟩:=zSI w pos hlt
    go_wp2_with fail
    go_roundg (gk - 1)
    case rel=>exact ⟨pos+1,by omega,rfl⟩
    case measure=>omega
  · obtain rfl:pos=4:=by omega
    have hnx:∀ty,(Instr.next (.pointer (some ⟨w.heap.size,0,none⟩)) true ty).run prog (w.iter ⟨#[32,9,10,13]⟩ 4)=_:=λty=>run_next_end w ⟨#[32,9,10,13]⟩ 4 ty (by decide)
    go_wp2_with fail
    go_ret
    exact ⟨rfl,zD1 w _ _⟩
theorem sib9 (T:ByteArray) (c:UInt8) (q:Int) (w:World) (h:Lib.indexByte T.data.toList c=q) :
 Calls prog 224 #[.string T,.int .u8 c.toNat] w λe w'=>e=.returned (.int .i64 q)/\w=w':=by
 have HC:Hid (Calls prog 187 #[.string T,.int .u8 c.toNat] w λe w'=>e=.returned (.int .i64 q)/\w=w'):=hI ((Tryz.stringslite_IndexByte T _ w).mono λe w' ⟨k1,k2⟩=>⟨by rw [k1,←h];simp,k2.symm⟩);clear h
 go_enter func224,ntmps224
 go_wp2_with (first
  | (go_at_call 187;(with_reducible refine (HC.out).mono ?_);rintro e1 w1 ⟨rfl,rfl⟩)
  | fail)
 go_ret
 exact ⟨rfl,rfl⟩
theorem zQ8 (c:UInt8) (h:128<=c.toNat) (k:Nat):Lib.indexByte (([32,9,10,13]:List UInt8).drop k) c= -1:=by
 rcases zBR (([32,9,10,13]:List UInt8).drop k) c with ⟨h1,_⟩ | ⟨i,_,_,h2,_⟩
 · exact h1
 · exfalso
   have hm:c∈([32,9,10,13]:List UInt8):=List.mem_of_mem_drop (i:=k) (by rw [h2];simp);simp only [List.mem_cons,List.not_mem_nil,or_false] at hm;rcases hm with rfl | rfl | rfl | rfl <;> simp at h
theorem zMf (x:Nat) (R:ByteArray) (i:Nat) (h1:128<=x) (h3:x≠65533) (hv:sv x=true) (hR:Utf8.encode (x:Int)=R) (hi:R.size=i+1) (hi1:1<=i) (hi3:i<=3) (hb:128<=(R[i]'(by omega)).toNat) (w:World) :
 Calls prog 264 #[.string ⟨#[32,9,10,13]⟩,.int .i32 x] w λe w'=>e=.returned (.int .i64 (-1))/\Below w.heap.size w w':=by
 have hs:=zLf hv;have HV:Hid (Calls prog 270 #[.int .i32 x] w λe w'=>e=.returned (.bool true)/\w=w'):=hI ((Tryz.utf8_ValidRune x w).mono λe w' ⟨k1,k2⟩=>⟨by rw [k1,hs],k2.symm⟩);have g1:decide ((x:Int)<128)=false:=decide_eq_false (by omega);have g0:decide ((0:Int)<=(x:Int))=true:=decide_eq_true (by omega);have g2:((x:Int)==65533)=false:=by simp;omega
 obtain ⟨c,hc⟩:∃c,R[i]'(by omega)=c:=⟨_,rfl⟩;have hca:∀h,R[i]'h=c:=λ_=>hc
 rw [hc] at hb;have HB:=hI hb;obtain ⟨S,hS⟩:∃S:ByteArray,(⟨#[32,9,10,13]⟩:ByteArray)=S:=⟨_,rfl⟩;have hS4:S.size=4:=by rw [←hS];rfl
 obtain ⟨d,hda,hd2⟩:∃d:UInt8,(∀h,S[i]'h=d)/\d.toNat<128:=by
  refine ⟨S[i]'(by omega),λ_=>rfl,?_⟩;subst hS
  match i,hi1,hi3 with
  | 1,_,_=>show (9:UInt8).toNat<128;decide
  | 2,_,_=>show (10:UInt8).toNat<128;decide
  | 3,_,_=>show (13:UInt8).toNat<128;decide
 have g4:((d.toNat:Int) != (c.toNat:Int))=true:=by simp;omega
 obtain ⟨n,hsz⟩:∃n,S.size=n:=⟨_,rfl⟩;obtain ⟨m,hm⟩:∃m,R.size=m:=⟨_,rfl⟩;obtain ⟨j,hj⟩:∃j,i+1=j:=⟨_,rfl⟩;have hn:n=4:=by omega
 have bi:(0:Int)<=(i:Int)/\(i:Int)<(n:Int):=by omega
 have bm:(i:Int)<(m:Int):=by omega
 have bj:(0:Int)<=(j:Int)/\(j:Int)<=(n:Int):=by omega
 have di:decide ((i:Int)<(n:Int))=true:=decide_eq_true (by omega);have s0:IntKind.i64.wrap ((m:Int) - 1)=(i:Int):=by rw [IntWalk.i64_in _ (by omega)];omega
 have s1:IntKind.i64.wrap ((i:Int)+1)=(j:Int):=by rw [IntWalk.i64_in _ (by omega)];omega
 have s2:((j:Nat):Int).toNat=j:=by omega
 have s3:((i:Nat):Int).toNat=i:=by omega
 obtain ⟨T,hT⟩:∃T:ByteArray,S.extract j n=T:=⟨_,rfl⟩
 have HI:Hid (Lib.indexByte T.data.toList c= -1):=hI (by
  have e:((⟨#[32,9,10,13]⟩:ByteArray).extract j 4).data.toList=([32,9,10,13]:List UInt8).drop j:=by
   rw [zAh _ j 4 (Nat.le_refl _),List.take_of_length_le (by simp)]
  rw [←hT,←hS,hn,e];exact zQ8 c HB.out j)
 rw [hS];clear h1 h3 hv hs hc hb hd2 hS hn hS4 hi hi1 hi3 hj
 go_enter func264,ntmps264
 go_wp2_with (first
  | (go_at_call 270;(with_reducible refine (HV.out).mono ?_);rintro e1 w1 ⟨rfl,rfl⟩)
  | fail)
 go_step3
 go_wp2_with fail
 refine wp_loop_rounds 1 ?_;rw [rounds_succ]
 go_wp2_with fail
 go_step3
 go_wp2_with fail
 go_region
 go_wp2_with fail
 go_region_held3 (λ_=>True) (first | trivial | go_keep) ((first
  | (go_at_call 224;(with_reducible refine (sib9 T c (-1) _ HI.out).mono ?_);rintro e2 w2 ⟨rfl,rfl⟩)
  | fail))
 go_wp2_with fail
 (try simp only [Exit.inBlock,Exit.then,Exit.noGoto])
 go_ret
 exact ⟨rfl,(Below.refl _ _).drew.drew⟩
theorem zOO (x:Nat) (hx:x<=1114111) (h:128<=x) (w:World) :
 Calls prog 264 #[.string ⟨#[32,9,10,13]⟩,.int .i32 x] w λe w'=>e=.returned (.int .i64 (-1))/\Below w.heap.size w w':=by
 by_cases h3:x=65533
 · subst h3;exact zMc w
 by_cases hv:sv x=true
 · have hR:=zMb x hv
   obtain ⟨l1,l2⟩:=zBJ x;have hfar:∀c∈enc x,128<=c.toNat:=zDz x h hv
   have hlen:2<=(enc x).length:=by
    unfold enc;rw [if_neg (by omega)]
    split
    · simp
    · split <;> simp
   have hsz:(⟨(enc x).toArray⟩:ByteArray).size=(enc x).length:=by rw [←ba_l]
   refine zMf x ⟨(enc x).toArray⟩ ((enc x).length - 1) h h3 hv hR (by omega) (by omega) (by omega) (hfar _ ?_) w;have e:=at_l (⟨(enc x).toArray⟩:ByteArray) ((enc x).length - 1) (by omega);rw [←e];exact List.getElem_mem _
 · have:55296<=x/\x<=57343:=by
    unfold sv at hv
    simp at hv
    omega
   exact zM4 x this.1 this.2 w
theorem zSk (x:Nat) (hx:x<=1114111) (q:Bool) (hq:isSp x=q) (w:World) :
 Calls prog 251 #[.string ⟨#[32,9,10,13]⟩,.int .i32 x] w λe w'=>e=.returned (.bool q)/\Below w.heap.size w w':=by
 by_cases h:x<128
 · refine (Tryz.strings_ContainsRune_ascii ⟨#[32,9,10,13]⟩ x w (by omega) (by omega)).mono λe w' ⟨k1,k2⟩=>⟨?_,k2 ▸ Below.refl _ _⟩
   rw [k1,←hq]
   congr 2
   obtain ⟨j,hj,hd⟩:=zGn (UInt8.ofNat x);rw [show ((x:Int).toNat.toUInt8)=UInt8.ofNat x by simp,show (⟨#[32,9,10,13]⟩:ByteArray).data.toList=[32,9,10,13] from rfl,hj,hd];have hn:(UInt8.ofNat x).toNat=x:=by rw [UInt8.toNat_ofNat'];omega
   unfold blk isSp;rw [Bool.eq_iff_iff]
   simp [←UInt8.toNat_inj,hn]
   omega
 · have HC:=hI (zOO x hx (by omega) w)
   obtain rfl:false=q:=by rw [←hq];unfold isSp;exact (decide_eq_false (by omega)).symm
   clear hq h hx
   go_enter func251,ntmps251
   go_wp2_with (first
    | (go_at_call 264;(with_reducible refine (HC.out).mono ?_);rintro e1 w1 ⟨rfl,hb1⟩)
    | fail)
   go_ret
   exact ⟨rfl,hb1⟩
theorem zR5 (x:Nat) (hx:x<=1114111) (w:World) :
 Calls prog 244 #[.int .i32 x] w λe w'=>e=.returned (.int .i32 (spc x))/\Below w.heap.size w w':=by
 obtain ⟨q,hq⟩:∃q,isSp x=q:=⟨_,rfl⟩;have HC:=hI (zSk x hx q hq w)
 cases q with
 | true =>
  have he:spc x=32:=by unfold isSp at hq;unfold spc;rw [decide_eq_true_eq] at hq;rw [if_pos (by omega)]
  rw [he];clear hq he hx
  go_enter func244,ntmps244
  go_wp2_with (first
   | (go_at_call 251;(with_reducible refine (HC.out).mono ?_);rintro e1 w1 ⟨rfl,hb1⟩)
   | fail)
  go_ret
  exact ⟨rfl,hb1⟩
 | false =>
  have he:spc x=x:=by unfold isSp at hq;unfold spc;rw [decide_eq_false_iff_not] at hq;rw [if_neg (by omega)]
  rw [he];clear hq he hx
  go_enter func244,ntmps244
  go_wp2_with (first
   | (go_at_call 251;(with_reducible refine (HC.out).mono ?_);rintro e1 w1 ⟨rfl,hb1⟩)
   | fail)
  go_ret
  exact ⟨rfl,hb1⟩
def sp8 (c:UInt8):UInt8:=if blk c then 32 else c
theorem zRZ (n:Nat) (h:sv n=true) (r:List UInt8):Lib.decodeL (enc n++r)=(n,(enc n).length):=by
 unfold Lib.decodeL;have hl:=(zBJ n).1;rw [zDe _ 0 (by rw [←ba_l];simp;omega)]
 simp [zFE n h r]
theorem zPq:∀(ns:List Nat),mays ns->Lib.mapD spc (encs ns)=(encs ns).map sp8:=by
 intro ns
 induction ns with
 | nil=>intro _;rfl
 | cons n ns ih =>
  intro hm;rw [zAw] at hm;have hv:=zEr hm.1;have hl:=zBJ n
  have hne:enc n++encs ns≠[]:=by
   intro e;have:=congrArg List.length e;rw [List.length_append,List.length_nil] at this
   omega
  have hd:=zRZ n hv (encs ns);rw [zAl,Lib.mapD_step spc _ hne,hd];dsimp only;rw [List.drop_left,ih hm.2,List.map_append]
  congr 1
  by_cases hs:n=32∨n=9∨n=10∨n=13
  · have e1:spc (n:Int)=32:=by unfold spc;rw [if_pos (by omega)]
    rw [e1,if_pos (by decide),zC9 (by omega)];rcases hs with rfl | rfl | rfl | rfl <;> rfl
  · have e1:spc (n:Int)=n:=by unfold spc;rw [if_neg (by omega)]
    have e2:=Lib.encode_decode (enc n++encs ns) hne (by
     rw [hd];rintro ⟨k1,k2⟩;dsimp only at k1 k2;subst k1
     revert k2
     decide)
    rw [hd] at e2;dsimp only at e2;rw [e1,if_pos (by omega),e2,List.take_left];refine (List.map_congr_left (g:=id) λc hc=>?_).trans (List.map_id _) |>.symm;unfold sp8
    have:blk c=false:=by
     by_cases h8:n<128
     · rw [zC9 h8,List.mem_singleton] at hc
       subst hc;have hb:(bt n).toNat=n:=zBH n (by omega);unfold blk
       simp [←UInt8.toNat_inj,hb]
       omega
     · have:=zDz n (by omega) hv c hc
       cases hb:blk c with
       | false=>rfl
       | true=>have:=(zCh hb).2.2.2.2.2.2.2;omega
    rw [this]
    rfl
structure Ev9 (w:World):Prop where
 err:Ev w
 tab:Lib.Utf8Tabs 5 6 w
theorem Ev9.to {w w':World} (h:Ev9 w) (hb:Below w.heap.size w w'):Ev9 w':=⟨h.err.to hb,Utf8Tabs_below h.tab hb⟩
theorem Ev9.went {b:Nat} {s t:ByteArray} {w w':World} (h:Ev9 w) (hr:Rd b s w) (hg:w.grownBy w' (some b)):Ev9 w':=by
 have hc:=hr.cell
 have keep:∀(a:Addr) v,w.cell? a=some v->(∀s,v≠.string s)->a.off=0∨True->w'.cell? a=some v:=by
  intro a v ha hv _;refine hg.cell ha λe=>?_
  have e2:a.block=b:=by injection e
  obtain ⟨ab,off,sp⟩:=a;have hsp:sp=none:=World.cell?_spot ha;dsimp only at e2;subst hsp e2;rw [zAA w ab off _ _ _ hr] at ha
  cases off with
  | zero=>simp at ha;exact hv s ha.symm
  | succ k=>simp at ha
 obtain ⟨te,pe,he⟩:=h.err;refine ⟨⟨te,pe,keep _ _ he (λ_ e=>by cases e) (.inl rfl)⟩,λc hc=>keep _ _ (h.tab.1 c hc) (λ_ e=>by cases e) (.inr trivial),λi hi=>?_⟩;exact ⟨keep _ _ (h.tab.2 i hi).1 (λ_ e=>by cases e) (.inr trivial),keep _ _ (h.tab.2 i hi).2 (λ_ e=>by cases e) (.inr trivial)⟩
theorem map9 (s t:ByteArray) (w:World) (hp:isP s.data.toList=true) (hs:s.size<=1000000) (ht:t.data.toList=s.data.toList.map sp8) (hE:Ev9 w) :
 Calls prog 243 #[.func (.func 244) #[] #[],.string s] w λe w'=>e=.returned (.string t)/\Below w.heap.size w w':=by
 obtain ⟨ns,hns,hm⟩:=zJ9 hp;refine (Tryz.strings_Map_grows 244 #[] (enters_of func244 (by kernel_rfl) rfl) spc s w (by omega) (λW x hx _=>zR5 x hx W) (λx hx=>?_) hE.tab).mono λe w' ⟨k1,k2⟩=>⟨?_,k2⟩
 · unfold spc
   split <;> omega
 · rw [k1,hns,zPq ns hm,←hns,←ht]
end Hx
end Go.Proofs.YtlgppednjkbgiaaGreatDoor
