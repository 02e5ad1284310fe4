/-
  What came in reads as nodes; what the program finds laid.
-/
import Derived.Test.YtlgppednjkbgiaaGreatDoorMb26
import Derived.Deep.Slices
set_option maxRecDepth 100000
set_option linter.unusedVariables false
set_option linter.unusedSimpArgs false
namespace Go.Proofs.YtlgppednjkbgiaaGreatDoor
open Go.RowKit
namespace Hx
def SlC {α:Type} (C:Cod α):Cod (List α) where
 k:=1
 R w B cs l:=∃A c,cs=[.slice A l.length c]/\l.length<=c/\c<=maxLen/\(A=none->c=0)/\RdC C w B A l
 len:=by rintro _ _ _ _ ⟨A,c,rfl,_⟩;rfl
 keep:=λ⟨A,c,h1,h2,h3,h4,h5⟩ hB hk=>⟨A,c,h1,h2,h3,h4,h5.keep hB hk⟩
def Opens {H:Type} (enc:TypeId × Value->H) (P:Program) {α:Type} (C:Cod α) (t:TypeId):Prop :=
 ∀(W:World) (sp:Nat->Bool) (held:Bool) (fuel:Nat) (cs:List Value) (x:DataW H × List MemPlace),DataW.trod enc P W 0 sp held fuel t cs=some x->∃v,C.R W W.heap.size cs v
section
variable {H:Type} {enc:TypeId × Value->H} {P:Program}
theorem Opens.slice {α:Type} {C:Cod α} {t e:TypeId} (ht:P.underlying t=some (.slice e)) (hk:P.cellsOf e=C.k) (hk0:0<C.k) (he:Opens enc P C e):Opens enc P (SlC C) t:=λW sp held fuel cs x h=>by
 rcases Go.Deep.open_slice ht h with ⟨rfl,_⟩ | ⟨a,len,cap,m,n,D,Pl,rfl,_,hl,hm,hmm,_,hel⟩
 · exact ⟨[],none,0,rfl,Nat.le_refl _,Nat.zero_le _,λ_=>rfl,RdC.nil _ _ _⟩
 · have hlm:len<=m:=by rw [hmm];split <;> omega
   have each:∀i,i<len->∃v:α,∃cs',C.R W W.heap.size cs' v/\∀j (hj:j<cs'.length),W.cell? ((a.add (i*C.k)).add j)=some (cs'[j]'hj):=λi hi=>by
    obtain ⟨cs',h1,h2⟩:=hel i (by omega)
    obtain ⟨v,hv⟩:=he _ _ _ _ _ _ h2
    obtain ⟨_,k2,k3⟩:=World.cells?_some h1
    rw [hk] at k2 k3
    exact ⟨v,cs',hv,λj hj=>by rw [k3 j (by omega)];exact List.getElem?_eq_getElem hj⟩
   by_cases hl0:len=0
   · subst hl0
     exact ⟨[],some a,cap,rfl,Nat.zero_le _,hm,λh=>(by cases h),RdC.nil _ _ _⟩
   · classical
     obtain ⟨v0,_⟩:=each 0 (by omega)
     let f:Nat->α:=λi=>if hi:i<len then Classical.choose (each i hi) else v0
     have hf:∀i (hi:i<len),∃cs',C.R W W.heap.size cs' (f i)/\∀j (hj:j<cs'.length),W.cell? ((a.add (i*C.k)).add j)=some (cs'[j]'hj):=λi hi=>by
      show ∃cs',C.R W W.heap.size cs' (if hi:i<len then Classical.choose (each i hi) else v0)/\_
      rw [dif_pos hi]
      exact Classical.choose_spec (each i hi)
     have hlen:((List.range len).map f).length=len:=by simp
     refine ⟨(List.range len).map f,some a,cap,by rw [hlen],by omega,hm,λh=>(by cases h),λ_=>?_⟩
     obtain ⟨b,off,spot⟩:=a
     have hspot:spot=none:=by
      obtain ⟨cs',h1,h2⟩:=hf 0 (by omega)
      have hc:=C.len h1
      have:=World.cell?_spot (h2 0 (by omega))
      simpa [Addr.add] using this
     subst hspot
     refine ⟨b,off,rfl,?_,λj hj=>?_⟩
     · obtain ⟨cs',h1,h2⟩:=hf 0 (by omega)
       have hc:=C.len h1
       have:=h2 0 (by omega)
       rw [zBB,zBB] at this
       exact World.block_lt_of_cell? (a:=⟨b,_,none⟩) W this
     · rw [hlen] at hj
       obtain ⟨cs',h1,h2⟩:=hf j hj
       refine ⟨cs',by simpa using h1,λi hi=>?_⟩
       have:=h2 i hi
       rw [zBB,zBB] at this
       exact this
end
end Hx
namespace Hx
open Lx Tr
def CodS.old {α:Type} (C:CodS α):Cod α where
 k:=C.k
 R w B cs x:=C.R w (λb=>b<B) cs x
 len:=λh=>C.len h
 keep:=λh hB hk=>C.keep h (λb hb=>Nat.lt_of_lt_of_le hb hB) λb o hb=>hk b o hb
theorem RdC.toS {α:Type} {C:CodS α} {w:World} {B:Nat} {A:Option Addr} {l:List α} (h:RdC C.old w B A l):RdS C w (λb=>b<B) A l:=h
section
variable {H:Type} {enc:TypeId × Value->H}
theorem three_of {cs:List Value} (h:cs.length=3):∃x y z,cs=[x,y,z]:=by
 match cs,h with
 | [x,y,z],_=>exact ⟨x,y,z,rfl⟩
theorem six_of {cs:List Value} (h:cs.length=6):∃x y z u v t,cs=[x,y,z,u,v,t]:=by
 match cs,h with
 | [x,y,z,u,v,t],_=>exact ⟨x,y,z,u,v,t,rfl⟩
theorem opens_attr:Opens enc Tryz.prog AtS.old 44:=λW sp held fuel cs x h=>by
 obtain ⟨c1,_,_,_,c3,_⟩:=zKL
 obtain ⟨xs,n,_,_,hl,hx,hf⟩:=DataW.trod_struct Tryz.underlying44 h
 rw [c3] at hl
 obtain ⟨a,b,c,rfl⟩:=three_of hl
 have h0:DataW.trod enc Tryz.prog W 0 sp held n 9 (([a,b,c].drop 0).take (Tryz.prog.cellsOf 9))=xs[0]?:=hf 0 _ rfl
 have h1:DataW.trod enc Tryz.prog W 0 sp held n 9 (([a,b,c].drop 1).take (Tryz.prog.cellsOf 9))=xs[1]?:=hf 1 _ rfl
 have h2:DataW.trod enc Tryz.prog W 0 sp held n 9 (([a,b,c].drop 2).take (Tryz.prog.cellsOf 9))=xs[2]?:=hf 2 _ rfl
 have hx2:xs.length=3:=hx
 simp only [c1,List.drop_zero,List.drop_succ_cons,List.take_succ_cons,List.take_zero] at h0 h1 h2
 obtain ⟨s,e1,_⟩:=DataW.trod_string Tryz.underlying9 (h0.trans (List.getElem?_eq_getElem (by omega)))
 obtain ⟨t,e2,_⟩:=DataW.trod_string Tryz.underlying9 (h1.trans (List.getElem?_eq_getElem (by omega)))
 obtain ⟨u,e3,_⟩:=DataW.trod_string Tryz.underlying9 (h2.trans (List.getElem?_eq_getElem (by omega)))
 obtain ⟨rfl,_⟩:=List.cons.inj e1
 obtain ⟨rfl,_⟩:=List.cons.inj e2
 obtain ⟨rfl,_⟩:=List.cons.inj e3
 exact ⟨⟨_,_,_⟩,s,t,u,rfl,rfl,rfl,rfl⟩
theorem opens_node:Opens enc Tryz.prog NdS.old 42:=λW sp held fuel cs x h=>by
 obtain ⟨c1,c2,c3,c4,c5,c6⟩:=zKL
 obtain ⟨xs,n,_,_,hl,hx,hf⟩:=DataW.trod_struct Tryz.underlying42 h
 rw [c6] at hl
 obtain ⟨a,b,c,d,e,f,rfl⟩:=six_of hl
 have h0:DataW.trod enc Tryz.prog W 0 sp held n 5 (([a,b,c,d,e,f].drop 0).take (Tryz.prog.cellsOf 5))=xs[0]?:=hf 0 _ rfl
 have h1:DataW.trod enc Tryz.prog W 0 sp held n 9 (([a,b,c,d,e,f].drop 1).take (Tryz.prog.cellsOf 9))=xs[1]?:=hf 1 _ rfl
 have h2:DataW.trod enc Tryz.prog W 0 sp held n 9 (([a,b,c,d,e,f].drop 2).take (Tryz.prog.cellsOf 9))=xs[2]?:=hf 2 _ rfl
 have h3:DataW.trod enc Tryz.prog W 0 sp held n 40 (([a,b,c,d,e,f].drop 3).take (Tryz.prog.cellsOf 40))=xs[3]?:=hf 3 _ rfl
 have h4:DataW.trod enc Tryz.prog W 0 sp held n 9 (([a,b,c,d,e,f].drop 4).take (Tryz.prog.cellsOf 9))=xs[4]?:=hf 4 _ rfl
 have h5:DataW.trod enc Tryz.prog W 0 sp held n 3 (([a,b,c,d,e,f].drop 5).take (Tryz.prog.cellsOf 3))=xs[5]?:=hf 5 _ rfl
 have hx2:xs.length=6:=hx
 simp only [c1,c2,c3,c4,List.drop_zero,List.drop_succ_cons,List.take_succ_cons,List.take_zero] at h0 h1 h2 h3 h4 h5
 obtain ⟨m,e0,_,w0⟩:=DataW.trod_int Tryz.underlying5 (h0.trans (List.getElem?_eq_getElem (by omega)))
 obtain ⟨s,e1,_⟩:=DataW.trod_string Tryz.underlying9 (h1.trans (List.getElem?_eq_getElem (by omega)))
 obtain ⟨t,e2,_⟩:=DataW.trod_string Tryz.underlying9 (h2.trans (List.getElem?_eq_getElem (by omega)))
 obtain ⟨l,A,cp,e3,k1,k2,k3,k4⟩:=(Opens.slice (C:=AtS.old) Tryz.underlying40 c5 (by decide) opens_attr) W sp held _ _ _ (h3.trans (List.getElem?_eq_getElem (by omega)))
 obtain ⟨u,e4,_⟩:=DataW.trod_string Tryz.underlying9 (h4.trans (List.getElem?_eq_getElem (by omega)))
 obtain ⟨y,e5,_,w5⟩:=DataW.trod_int Tryz.underlying3 (h5.trans (List.getElem?_eq_getElem (by omega)))
 obtain ⟨rfl,_⟩:=List.cons.inj e0
 obtain ⟨rfl,_⟩:=List.cons.inj e1
 obtain ⟨rfl,_⟩:=List.cons.inj e2
 obtain ⟨rfl,_⟩:=List.cons.inj e3
 obtain ⟨rfl,_⟩:=List.cons.inj e4
 obtain ⟨rfl,_⟩:=List.cons.inj e5
 have hb:=bounds_u8 w0
 have hy:=bounds_i64 w5
 obtain ⟨k,rfl⟩:∃k:Nat,m=(k:Int):=⟨m.toNat,by omega⟩
 exact ⟨⟨k,_,_,l,_,y⟩,s,t,u,A,cp,rfl,rfl,rfl,rfl,k4,k1,k2,k3,by show k<256;omega,by show _<=y;omega,by show y<=_;omega⟩
theorem opens_nodes:Opens enc Tryz.prog (SlC NdS.old) 22:=Opens.slice (C:=NdS.old) Tryz.underlying22 zKL.2.2.2.2.2 (by decide) opens_node
end
end Hx
end Go.Proofs.YtlgppednjkbgiaaGreatDoor
