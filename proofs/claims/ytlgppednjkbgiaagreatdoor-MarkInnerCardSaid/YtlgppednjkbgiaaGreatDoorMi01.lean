/-
  Texts of one seat, put together: LexO, LexP, TreM, TreP, TreQ, SpaM.
-/
import Derived.Test.YtlgppednjkbgiaaGreatDoorMiA
import Derived.Test.YtlgppednjkbgiaaGreatDoorMi00
set_option maxRecDepth 100000
set_option maxHeartbeats 16000000
set_option linter.unusedVariables false
namespace Go.Proofs.YtlgppednjkbgiaaGreatDoor
open Go.RowKit Go.Proofs.Tryz
namespace Lx
open Tx Nmb Es
def okT (l:List UInt8):Bool:=decide (l.length≤16384)&&isP l
def zDG:List Pr→List Pr→Bool
 | _,[]=>true
 | acc,p::r=>zAO p.name&& !hasL acc p.name&&okT p.value&&zDG (acc++[p]) r
def zCR (l:List Pr):Bool:=zDG [] l&&decide (l.length≤16)
def mayT (t:Tk):Bool :=
 if t.kind=1∨t.kind=3 then zAO t.name&&zCR t.attrs&&t.text.isEmpty
 else if t.kind=2 then zAO t.name&&t.attrs.isEmpty&&t.text.isEmpty
 else if t.kind=4 then t.name.isEmpty&&t.attrs.isEmpty&& !t.text.isEmpty&&okT t.text else false
def zBx (p:Pr):List UInt8:=32::(p.name++61::34::(escL true p.value++[34]))
def zAK (t:Tk):List UInt8 :=
 if t.kind=4 then escL false t.text else if t.kind=2 then 60::47::(t.name++[62])
 else 60::(t.name++(t.attrs.flatMap zBx++(if t.kind=3 then [47,62] else [62])))
def zBi:List Tk→Bool
 | []=>true
 | [_]=>true
 | a::b::r=> !(decide (a.kind=4)&&decide (b.kind=4))&&zBi (b::r)
theorem zCZ {t:Tk} (h:mayT t=true):(∃b:Bool,t.kind=(if b then 3 else 1)∧zAO t.name=true∧zCR t.attrs=true∧t.text=[])∨(t.kind=2∧zAO t.name=true∧t.attrs=[]∧t.text=[])∨(t.kind=4∧t.name=[]∧t.attrs=[]∧t.text≠[]∧okT t.text=true):=by
 unfold mayT at h
 by_cases h1:t.kind=1∨t.kind=3
 · rw [if_pos h1] at h
   simp only [Bool.and_eq_true,List.isEmpty_iff] at h;rcases h1 with h1 | h1
   · exact .inl ⟨false,h1,h.1.1,h.1.2,h.2⟩
   · exact .inl ⟨true,h1,h.1.1,h.1.2,h.2⟩
 · rw [if_neg h1] at h
   by_cases h2:t.kind=2
   · rw [if_pos h2] at h
     simp only [Bool.and_eq_true,List.isEmpty_iff] at h;exact .inr (.inl ⟨h2,h.1.1,h.1.2,h.2⟩)
   · rw [if_neg h2] at h
     by_cases h4:t.kind=4
     · rw [if_pos h4] at h
       simp only [Bool.and_eq_true,List.isEmpty_iff,Bool.not_eq_true',List.isEmpty_eq_false_iff] at h;exact .inr (.inr ⟨h4,h.1.1.1,h.1.1.2,h.1.2,h.2⟩)
     · rw [if_neg h4] at h;cases h
theorem zOm (l r:List UInt8) (t:Tk):oneL (60::l)=some (t,r)↔tagL l=some (t,r):=by
 unfold oneL;dsimp only;rw [if_pos rfl]
theorem zNc (c:UInt8):txt c=true↔c≠60:=by unfold txt;simp
theorem zDg {l r:List UInt8} {t:Tk} (h:oneL l=some (t,r)):(t.kind≠4∧∃s,l=60::s∧tagL s=some (t,r)) ∨
 (t.kind=4∧l.head?≠some 60∧∃a x,l=a++r∧a≠[]∧(∀c∈a,c≠60)∧rd a=some x∧t=⟨4,[],[],x⟩∧∀c s,r=c::s→c=60):=by
 cases l with
 | nil=>cases h
 | cons c s =>
  by_cases hc:c=60
  · subst hc
    have ht:=(zOm _ _ _).1 h
    left
    refine ⟨?_,s,rfl,ht⟩;rcases (zEi _ _ _).1 ht with ⟨g,_,_,_,e⟩ | ⟨b,y,_,_,_,e⟩
    · rw [e];simp
    · rw [e];cases b <;> simp
  · right
    unfold oneL at h;dsimp only at h;rw [if_neg hc] at h
    cases hr:rd ((c::s).takeWhile txt) with
    | none=>rw [hr] at h;cases h
    | some x =>
     rw [hr] at h;obtain ⟨rfl,rfl⟩:=(Prod.mk.injEq _ _ _ _).mp (Option.some.inj h);obtain ⟨e1,e2,e3⟩:=zAW txt (c::s);refine ⟨rfl,by simpa using hc,_,x,e1,?_,fun d hd=>(zNc d).1 (e2 d hd),hr,rfl,fun d q e=>?_⟩
     · have:txt c=true:=(zNc c).2 hc
       rw [List.takeWhile_cons,this]
       simp
     · have:=e3 d q e
       unfold txt at this
       simpa using this
inductive LexI:List Tk→List UInt8→Prop
 | nil:LexI [] []
 | cons (t:Tk) (ts:List Tk) (l r:List UInt8):oneL l=some (t,r)→LexI ts r→LexI (t::ts) l
theorem zKM {t:Tk} {l:List Tk} (h:zBi (t::l)=true):zBi l=true:=by
 cases l with
 | nil=>rfl
 | cons b r=>unfold zBi at h;rw [Bool.and_eq_true] at h;exact h.2
theorem zAu {g l:List UInt8} (h:isP (g++l)=true) (hg:∀c∈g,c.toNat < 128):isP l=true:=by
 induction g with
 | nil=>exact h
 | cons c g ih=>exact ih (zA0 (a:=[]) (b:=g++l) (c:=c) h (hg c (by simp))).2.1 (fun x hx=>hg x (by simp [hx]))
theorem zDK {c:UInt8} (h:blk c=true):c.toNat < 128:=(zCf h).2.2.2.2.2.2.2
theorem zGj {c:UInt8} (h:wch c=true):c.toNat < 128:=(zNn h).2.2.2.2.2.2.2.1
theorem zKp {q:UInt8} (h:q=34∨q=39):q.toNat < 128:=by rcases h with rfl | rfl <;> decide
theorem zFe {l r:List UInt8} {p:Pr} (h:zB4 l=some (p,r)) (hp:isP l=true) (hl:l.length≤16384):zAO p.name=true∧okT p.value=true∧isP r=true∧(zBx p).length+6*r.length≤6*l.length+5:=by
 obtain ⟨g1,g2,x,rfl,h1,h2,h3,h4⟩:=(zDV _ _ _).1 h;obtain ⟨q,raw,rfl,h5,h6,h7⟩:=(zEj _ _ _).1 h4;have k1:=zAu hp (fun c hc=>zGj (zCW h1 c hc));have k2:=zAu k1 (fun c hc=>zDK (h2 c hc));have k3:=(zA0 (a:=[]) (c:=61) k2 (by decide)).2.1;have k4:=zAu k3 (fun c hc=>zDK (h3 c hc));have k5:=(zA0 (a:=[]) (c:=q) k4 (zKp h5)).2.1;obtain ⟨k6,k7,_⟩:=zA0 k5 (zKp h5);obtain ⟨k8,k9⟩:=zK3 k6 h7;have hel:=(zC1 true p.value).2;simp only [List.length_append,List.length_cons] at hl;refine ⟨h1,by unfold okT;rw [k8,Bool.and_true,decide_eq_true_eq];omega,k7,?_⟩;unfold zBx;simp only [List.length_append,List.length_cons,List.length_nil]
 omega
theorem TagI.text {acc:List Pr} {l:List UInt8} {b:Bool} {at1:List Pr} {x:List UInt8} (h:TagI acc l b at1 x) (hp:isP l=true) (hl:l.length≤16384):∃more,at1=acc++more∧zDG acc more=true∧isP x=true∧(more.flatMap zBx).length+(if b then 2 else 1)+6*x.length≤6*l.length:=by
 induction h with
 | shut acc g x hg =>
  have:=zAu hp (fun c hc=>zDK (hg c hc));exact ⟨[],by simp,rfl,(zA0 (a:=[]) (c:=62) this (by decide)).2.1,by simp;omega⟩
 | bare acc g x hg =>
  have:=zAu hp (fun c hc=>zDK (hg c hc));have:=(zA0 (a:=[]) (c:=47) this (by decide)).2.1;exact ⟨[],by simp,rfl,(zA0 (a:=[]) (c:=62) this (by decide)).2.1,by simp;omega⟩
 | attr acc g l y p b at1 x hg hn ha hh _ ih =>
  have k1:=zAu hp (fun c hc=>zDK (hg c hc));rw [List.length_append] at hl;obtain ⟨k2,k3,k4,k5⟩:=zFe ha k1 (by omega);have hy:=zBu ha;obtain ⟨more,e1,e2,e3,e4⟩:=ih k4 (by omega);refine ⟨p::more,by rw [e1];simp,?_,e3,?_⟩
  · unfold zDG
    rw [k2,hh,k3,e2]
    rfl
  · rw [List.flatMap_cons,List.length_append,List.length_append]
    have:1≤g.length:=List.length_pos_iff.2 hn
    omega
def mayL (t:Tk):Prop:=t.attrs.length≤16→mayT t=true
theorem zOY {b:Bool} {name:List UInt8} {at1:List Pr} (h1:zAO name=true) (h2:zDG [] at1=true):mayL ⟨if b then 3 else 1,name,at1,[]⟩:=by
 intro hl;unfold mayT;dsimp only at hl ⊢;rw [if_pos (by cases b <;> simp)];unfold zCR;rw [h1,h2]
 simp [hl]
theorem zFs {l r:List UInt8} {t:Tk} (h:oneL l=some (t,r)) (hp:isP l=true) (hl:l.length≤16384):mayL t∧isP r=true∧(zAK t).length+6*r.length≤6*l.length:=by
 rcases zDg h with ⟨h1,s,rfl,ht⟩ | ⟨h1,h2,a,x,rfl,h3,h4,h5,rfl,h6⟩
 · have k0:=(zA0 (a:=[]) (c:=60) hp (by decide)).2.1
   rw [List.length_cons] at hl;rcases (zEi _ _ _).1 ht with ⟨g,rfl,k1,k2,k3⟩ | ⟨b,y,rfl,k1,k2,k3⟩
   · have q1:=(zA0 (a:=[]) (c:=47) k0 (by decide)).2.1
     have q2:=zAu q1 (fun c hc=>zGj (zCW k1 c hc));have q3:=zAu q2 (fun c hc=>zDK (k2 c hc));have q4:=(zA0 (a:=[]) (c:=62) q3 (by decide)).2.1;refine ⟨fun _=>?_,q4,?_⟩
     · rw [k3]
       unfold mayT
       simp [k1]
     · rw [k3]
       unfold zAK;simp only [List.length_append,List.length_cons];rw [if_neg (by decide),if_pos trivial];simp only [List.length_append,List.length_cons,List.length_nil]
       omega
   · have q2:=zAu k0 (fun c hc=>zGj (zCW k1 c hc))
     rw [List.length_append] at hl;obtain ⟨more,e1,e2,e3,e4⟩:=k2.text q2 (by omega);rw [List.nil_append] at e1;rw [k3];refine ⟨zOY k1 (by rw [e1];exact e2),e3,?_⟩;unfold zAK;rw [e1];dsimp only;rw [if_neg (by cases b <;> simp),if_neg (by cases b <;> simp)];simp only [List.length_append,List.length_cons]
     cases b
     · rw [if_neg (by simp)]
       simp only [List.length_cons,List.length_nil,Bool.false_eq_true,if_false] at e4 ⊢
       omega
     · rw [if_pos (by simp)]
       simp only [List.length_cons,List.length_nil,if_true] at e4 ⊢
       omega
 · have ha:isP a=true∧isP r=true:=by
    cases r with
    | nil=>rw [List.append_nil] at hp;exact ⟨hp,rfl⟩
    | cons c s =>
     obtain rfl:=h6 c s rfl;obtain ⟨q1,q2,q3⟩:=zA0 hp (by decide);exact ⟨q1,zD2 (a:=[60]) (by decide +kernel) q2⟩
   have hx:=zMu _ _ _ (Nat.le_refl _) ha.1 h5;obtain ⟨hx2,hx3⟩:=zPe _ _ _ (Nat.le_refl _) h5;rw [List.length_append] at hl;have hel:=(zC1 false x).2;refine ⟨fun _=>?_,ha.2,?_⟩
   · unfold mayT
     have:x≠[]:=hx3 h3;have h16:x.length≤16384:=by omega
     simp [okT,hx,this,h16]
   · unfold zAK
     rw [if_pos rfl,List.length_append];dsimp only
     omega
theorem LexI.text {a:List Tk} {l:List UInt8} (h:LexI a l) (hp:isP l=true) (hl:l.length≤16384):(∀t∈a,mayL t)∧zBi a=true∧(a.flatMap zAK).length≤6*l.length:=by
 induction h with
 | nil=>exact ⟨fun t h=>(by cases h),rfl,Nat.le_refl _⟩
 | cons t ts l r h1 h2 ih =>
  obtain ⟨k1,k2,k3⟩:=zFs h1 hp hl;have:=zC8 h1;obtain ⟨i1,i2,i3⟩:=ih k2 (by omega);refine ⟨fun x hx=>?_,?_,?_⟩
  · rcases List.mem_cons.1 hx with rfl | hx
    · exact k1
    · exact i1 x hx
  · cases ts with
    | nil=>rfl
    | cons u ts =>
     unfold zBi;rw [i2,Bool.and_true];rcases zDg h1 with ⟨q1,_⟩ | ⟨q1,_,a,x,_,_,_,_,_,q6⟩
     · simp [q1]
     · cases h2 with
       | cons _ _ _ r2 h3 h4 =>
        rcases zDg h3 with ⟨p1,_⟩ | ⟨_,p2,b,x2,rfl,p3,p4,_⟩
        · simp [p1]
        · exfalso
          cases b with
          | nil=>exact p3 rfl
          | cons c s=>exact p4 c (by simp) (q6 c (s++r2) rfl)
  · rw [List.flatMap_cons,List.length_append]
    omega
def lexE:Nat→Nat→List UInt8→Except (Int × Nat) (List Tk)
 | _,_,[]=>.ok []
 | 0,_,_::_=>.ok []
 | f+1,n,c::l=>match oneL (c::l) with
  | none=>.error (if n=512 then 4 else 80,l.length+1)
  | some (t,r)=>if n=512∨16 < t.attrs.length then .error (4,l.length+1) else (lexE f (n+1) r).map (t::·)
theorem zQU:∀(f n:Nat) (l:List UInt8) (ts:List Tk),l.length≤f→n≤512→(lexE f n l=.ok ts↔LexI ts l∧n+ts.length≤512∧∀t∈ts,t.attrs.length≤16):=by
 intro f
 induction f with
 | zero =>
  intro n l ts hl hn;obtain rfl:=List.eq_nil_of_length_eq_zero (Nat.le_zero.1 hl)
  constructor
  · intro h
    obtain rfl:[]=ts:=Except.ok.inj h;exact ⟨.nil,hn,fun t h=>by cases h⟩
  · rintro ⟨h,_⟩
    cases h with
    | nil=>rfl
    | cons t ts l r h1 h2=>cases h1
 | succ f ih =>
  intro n l ts hl hn
  cases l with
  | nil =>
   constructor
   · intro h
     obtain rfl:[]=ts:=Except.ok.inj h;exact ⟨.nil,hn,fun t h=>by cases h⟩
   · rintro ⟨h,_⟩
     cases h with
     | nil=>rfl
     | cons t ts l r h1 h2=>cases h1
  | cons c l =>
   show (match oneL (c::l) with | none=>_ | some (t,r)=>_)=_↔_
   cases ho:oneL (c::l) with
   | none =>
    constructor
    · intro h;cases h
    · rintro ⟨h,_⟩
      cases h with
      | cons t ts _ r h1 h2=>rw [ho] at h1;cases h1
   | some q =>
    obtain ⟨t,r⟩:=q;have hrl:=zC8 ho;dsimp only
    by_cases hc:n=512∨16 < t.attrs.length
    · rw [if_pos hc]
      constructor
      · intro h;cases h
      · rintro ⟨h,h2,h3⟩
        cases h with
        | cons t' ts _ r' h1 h4 =>
         rw [ho] at h1;obtain ⟨rfl,rfl⟩:=(Prod.mk.injEq _ _ _ _).mp (Option.some.inj h1);rw [List.length_cons] at h2;have:=h3 t (by simp)
         omega
    · rw [if_neg hc]
      have hn2:n+1≤512:=by omega
      rw [List.length_cons] at hl hrl
      constructor
      · intro h
        cases he:lexE f (n+1) r with
        | error e=>rw [he] at h;cases h
        | ok ts' =>
         rw [he] at h;obtain rfl:t::ts'=ts:=Except.ok.inj h;obtain ⟨k1,k2,k3⟩:=(ih (n+1) r ts' (by omega) hn2).1 he;refine ⟨.cons t ts' _ r ho k1,by rw [List.length_cons];omega,fun x hx=>?_⟩;rcases List.mem_cons.1 hx with rfl | hx
         · omega
         · exact k3 x hx
      · rintro ⟨h,h2,h3⟩
        cases h with
        | cons t' ts _ r' h1 h4 =>
         rw [ho] at h1;obtain ⟨rfl,rfl⟩:=(Prod.mk.injEq _ _ _ _).mp (Option.some.inj h1);rw [List.length_cons] at h2;rw [(ih (n+1) r ts (by omega) hn2).2 ⟨h4,by omega,fun x hx=>h3 x (by simp [hx])⟩]
         rfl
theorem zJu:∀(f n:Nat) (l:List UInt8) (e:Int) (k:Nat),l.length≤f→n≤512→lexE f n l=.error (e,k)→(e=4∨e=80)∧0 < k∧k≤l.length:=by
 intro f
 induction f with
 | zero =>
  intro n l e k hl hn h;obtain rfl:=List.eq_nil_of_length_eq_zero (Nat.le_zero.1 hl)
  cases h
 | succ f ih =>
  intro n l e k hl hn h
  cases l with
  | nil=>cases h
  | cons c l =>
   have h':(match oneL (c::l) with
    | none=>Except.error (if n=512 then (4:Int) else 80,l.length+1)
    | some (t,r)=>if n=512∨16 < t.attrs.length then .error (4,l.length+1) else (lexE f (n+1) r).map (t::·))=Except.error (e,k):=h
   cases ho:oneL (c::l) with
   | none =>
    rw [ho] at h';dsimp only at h';obtain ⟨rfl,rfl⟩:=(Prod.mk.injEq _ _ _ _).mp (Except.error.inj h');refine ⟨?_,by omega,by rw [List.length_cons];omega⟩
    split
    · exact .inl rfl
    · exact .inr rfl
   | some q =>
    obtain ⟨t,r⟩:=q;rw [ho] at h';dsimp only at h';have hrl:=zC8 ho;rw [List.length_cons] at hl hrl
    by_cases hc:n=512∨16 < t.attrs.length
    · rw [if_pos hc] at h'
      obtain ⟨rfl,rfl⟩:=(Prod.mk.injEq _ _ _ _).mp (Except.error.inj h');exact ⟨.inl rfl,by omega,by rw [List.length_cons];omega⟩
    · rw [if_neg hc] at h'
      cases he:lexE f (n+1) r with
      | error p =>
       obtain ⟨e',k'⟩:=p;rw [he] at h';obtain ⟨rfl,rfl⟩:=(Prod.mk.injEq _ _ _ _).mp (Except.error.inj h');obtain ⟨q1,q2,q3⟩:=ih (n+1) r e' k' (by omega) (by omega) he;exact ⟨q1,q2,by rw [List.length_cons];omega⟩
      | ok ts=>rw [he] at h';cases h'
def lexR (l:List UInt8):List Tk × Int × Int :=
 if 16384 < l.length then ([],0,4) else if isP l then (match lexE l.length 0 l with | .ok ts=>(ts,0,0) | .error (e,k)=>([],(l.length:Int) - k,e)) else ([],0,50)
def zCj (l:List Tk):List UInt8 × Int :=
 if l.all mayT=true∧zBi l=true then (if 512 < l.length∨16384 < (l.flatMap zAK).length then ([],4) else (l.flatMap zAK,0)) else ([],8)
theorem zQV {l:List UInt8} {ts:List Tk} {n:Int} (h:lexR l=(ts,n,0)):n=0∧LexI ts l∧isP l=true∧l.length≤16384∧ts.length≤512∧∀t∈ts,t.attrs.length≤16:=by
 unfold lexR at h
 by_cases h1:16384 < l.length
 · rw [if_pos h1] at h;cases h
 · rw [if_neg h1] at h
   by_cases h2:isP l=true
   · rw [if_pos h2] at h
     cases he:lexE l.length 0 l with
     | ok a =>
      rw [he] at h;obtain ⟨rfl,rfl⟩:a=ts∧0=n:=by simpa using h
      obtain ⟨k1,k2,k3⟩:=(zQU _ _ _ _ (Nat.le_refl _) (by omega)).1 he;exact ⟨rfl,k1,h2,by omega,by omega,k3⟩
     | error p =>
      obtain ⟨e,k⟩:=p;rw [he] at h;obtain ⟨q,_⟩:=zJu _ _ _ _ _ (Nat.le_refl _) (by omega) he;have:e=0:=by simp at h;exact h.2.2
      omega
   · rw [if_neg h2] at h;cases h
theorem zOS {l:List UInt8} {ts:List Tk} {n e:Int} (h:lexR l=(ts,n,e)) (he:e≠0):ts=[]∧(e=4∨e=50∨e=80)∧0≤n∧n≤l.length∧(e=80→n < l.length):=by
 unfold lexR at h
 by_cases h1:16384 < l.length
 · rw [if_pos h1] at h
   obtain ⟨rfl,rfl,rfl⟩:[]=ts∧0=n∧4=e:=by simpa using h
   exact ⟨rfl,.inl rfl,by omega,by omega,by omega⟩
 · rw [if_neg h1] at h
   by_cases h2:isP l=true
   · rw [if_pos h2] at h
     cases hx:lexE l.length 0 l with
     | ok a =>
      rw [hx] at h;obtain ⟨_,_,rfl⟩:a=ts∧0=n∧0=e:=by simpa using h
      exact absurd rfl he
     | error p =>
      obtain ⟨e',k⟩:=p;rw [hx] at h;obtain ⟨rfl,rfl,rfl⟩:[]=ts∧(l.length:Int) - k=n∧e'=e:=by simpa using h
      obtain ⟨q1,q2,q3⟩:=zJu _ _ _ _ _ (Nat.le_refl _) (by omega) hx;exact ⟨rfl,by omega,by omega,by omega,by omega⟩
   · rw [if_neg h2] at h
     obtain ⟨rfl,rfl,rfl⟩:[]=ts∧0=n∧50=e:=by simpa using h
     exact ⟨rfl,.inr (.inl rfl),by omega,by omega,by omega⟩
end Lx
namespace Tr
open Lx Tx Nmb Es
structure At where
 space:List UInt8
 name:List UInt8
 value:List UInt8
deriving instance DecidableEq for At
structure Nd where
 kind:Nat
 space:List UInt8
 name:List UInt8
 attrs:List At
 text:List UInt8
 many:Int
deriving instance DecidableEq for Nd
def atOk (a:At):Bool:=zAO a.name&&okT a.value&&okT a.space
def key (a:At):List UInt8 × List UInt8:=(a.space,a.name)
def zDt (l:List At):Bool:=l.all atOk&&decide ((l.map key).Nodup)&&decide (l.length≤16)
def ndOk (n:Nd):Bool :=
 if n.kind=1 then zAO n.name&&n.text.isEmpty&&okT n.space&&zDt n.attrs
 else if n.kind=2 then n.name.isEmpty&&n.space.isEmpty&&n.attrs.isEmpty&&decide (n.many=0)&& !n.text.isEmpty&&okT n.text
 else false
def zAF (g:List Nd→Option (List Nd)):Nat→Bool→List Nd→Option (Bool × List Nd)
 | 0,b,l=>some (b,l)
 | _+1,_,[]=>none
 | k+1,b,n::l=>if b=true∧n.kind=2 then none else match g (n::l) with
  | none=>none
  | some r=>zAF g k (decide (n.kind=2)) r
def zAD:Nat→List Nd→Option (List Nd)
 | _,[]=>none
 | 0,n::l=>if ndOk n=true∧n.kind=2 then some l else none
 | d+1,n::l=>if ndOk n=true∧0≤n.many then (zAF (zAD d) n.many.toNat false l).map (·.2) else none
def mayV (v:List Nd):Bool:=decide (v.length≤512)&&(v.head?.map fun n=>decide (n.kind=1))==some true&&decide (zAD 12 v=some [])
theorem zAj {v:List Nd}:mayV v=true↔v.length≤512∧(∃n l,v=n::l∧n.kind=1)∧zAD 12 v=some []:=by
 unfold mayV;rw [Bool.and_eq_true,Bool.and_eq_true,decide_eq_true_eq,decide_eq_true_eq,beq_iff_eq,and_assoc]
 cases v with
 | nil=>simp
 | cons n l=>simp
def Loc (g:List Nd→Option (List Nd)):Prop:=∀l r,g l=some r→∃p,p≠[]∧l=p++r∧∀x,g (p++x)=some x
theorem zBB {g:List Nd→Option (List Nd)} (hg:Loc g):∀(k:Nat) (b:Bool) (l:List Nd) (b':Bool) (r:List Nd),zAF g k b l=some (b',r)→∃p,l=p++r∧k≤p.length∧∀x,zAF g k b (p++x)=some (b',x):=by
 intro k
 induction k with
 | zero =>
  intro b l b' r h;rw [zAF] at h;obtain ⟨rfl,rfl⟩:=(Prod.mk.injEq _ _ _ _).mp (Option.some.inj h);exact ⟨[],rfl,Nat.le_refl _,fun x=>by rw [List.nil_append,zAF]⟩
 | succ k ih =>
  intro b l b' r h
  cases l with
  | nil=>rw [zAF] at h;cases h
  | cons n l =>
   rw [zAF] at h
   by_cases hb:b=true∧n.kind=2
   · rw [if_pos hb] at h;cases h
   · rw [if_neg hb] at h
     cases hn:g (n::l) with
     | none=>rw [hn] at h;cases h
     | some y =>
      rw [hn] at h;obtain ⟨q,hq,e1,h1⟩:=hg _ _ hn;obtain ⟨p,e2,h2,h3⟩:=ih _ _ _ _ h
      cases q with
      | nil=>exact absurd rfl hq
      | cons n' q =>
       injection e1 with e1 e3;subst e1 e3;refine ⟨n::q++p,by rw [e2];simp,by simp;omega,fun x=>?_⟩;have:=h1 (p++x);rw [List.append_assoc,List.cons_append,zAF,if_neg hb,←List.cons_append,this];exact h3 x
theorem zAZ:∀d,Loc (zAD d):=by
 intro d
 induction d with
 | zero =>
  intro l r h
  cases l with
  | nil=>rw [zAD] at h;cases h
  | cons n l =>
   rw [zAD] at h
   by_cases hn:ndOk n=true∧n.kind=2
   · rw [if_pos hn] at h
     injection h with h;subst h;exact ⟨[n],by simp,rfl,fun x=>by rw [List.singleton_append,zAD,if_pos hn]⟩
   · rw [if_neg hn] at h;cases h
 | succ d ih =>
  intro l r h
  cases l with
  | nil=>rw [zAD] at h;cases h
  | cons n l =>
   rw [zAD] at h
   by_cases hn:ndOk n=true∧0≤n.many
   · rw [if_pos hn] at h
     cases hk:zAF (zAD d) n.many.toNat false l with
     | none=>rw [hk] at h;cases h
     | some y =>
      rw [hk] at h;obtain ⟨b',y⟩:=y;have h:y=r:=Option.some.inj h;subst h;obtain ⟨p,e,_,h3⟩:=zBB ih _ _ _ _ _ hk;exact ⟨n::p,by simp,by rw [e];rfl,fun x=>by rw [List.cons_append,zAD,if_pos hn,h3];rfl⟩
   · rw [if_neg hn] at h;cases h
theorem zCH {d:Nat} {l r:List Nd} (h:zAD d l=some r):r.length < l.length:=by
 obtain ⟨p,h1,rfl,_⟩:=zAZ d l r h;have:=List.length_pos_iff.2 h1
 simp
 omega
theorem zDA {d:Nat} {l r:List Nd} (h:zAD d l=some r):r=l.drop (l.length - r.length):=by
 obtain ⟨p,h1,rfl,_⟩:=zAZ d l r h;rw [List.length_append,Nat.add_sub_cancel,List.drop_left]
theorem zBX {d k:Nat} {b b':Bool} {l r:List Nd} (h:zAF (zAD d) k b l=some (b',r)):r.length+k≤l.length:=by
 obtain ⟨p,rfl,h2,_⟩:=zBB (zAZ d) k b l b' r h
 simp
 omega
theorem zFm {g g':List Nd→Option (List Nd)} (hg:∀l r,g l=some r→g' l=some r):∀(k:Nat) (b:Bool) (l:List Nd) (y:Bool × List Nd),zAF g k b l=some y→zAF g' k b l=some y:=by
 intro k
 induction k with
 | zero=>intro b l y h;rw [zAF] at h ⊢;exact h
 | succ k ih =>
  intro b l y h
  cases l with
  | nil=>rw [zAF] at h;cases h
  | cons n l =>
   rw [zAF] at h ⊢
   by_cases hb:b=true∧n.kind=2
   · rw [if_pos hb] at h;cases h
   · rw [if_neg hb] at h ⊢
     cases hn:g (n::l) with
     | none=>rw [hn] at h;cases h
     | some z =>
      rw [hn] at h;rw [hg _ _ hn];exact ih _ _ _ h
theorem zA6 {n:Nd} (h:ndOk n=true) (hk:n.kind=2):n.many=0∧n.name=[]∧n.space=[]∧n.attrs=[]∧n.text≠[]∧okT n.text=true:=by
 unfold ndOk at h;rw [if_neg (by omega),if_pos hk] at h;simp only [Bool.and_eq_true,decide_eq_true_eq,List.isEmpty_iff,Bool.not_eq_true',List.isEmpty_eq_false_iff] at h;obtain ⟨⟨⟨⟨⟨h1,h2⟩,h3⟩,h4⟩,h5⟩,h6⟩:=h;exact ⟨h4,h1,h2,h3,h5,h6⟩
theorem zC6 {n:Nd} (h:ndOk n=true) (hk:n.kind=1):zAO n.name=true∧n.text=[]∧okT n.space=true∧zDt n.attrs=true:=by
 unfold ndOk at h;rw [if_pos hk] at h;simp only [Bool.and_eq_true,List.isEmpty_iff] at h;obtain ⟨⟨⟨h1,h2⟩,h3⟩,h4⟩:=h;exact ⟨h1,h2,h3,h4⟩
theorem zBY {n:Nd} (h:ndOk n=true):n.kind=1∨n.kind=2:=by
 unfold ndOk at h
 by_cases h1:n.kind=1
 · exact .inl h1
 · by_cases h2:n.kind=2
   · exact .inr h2
   · rw [if_neg h1,if_neg h2] at h;cases h
theorem zD9 {d:Nat} {n:Nd} {l:List Nd} (h:ndOk n=true) (hk:n.kind=2):zAD d (n::l)=some l:=by
 cases d with
 | zero=>rw [zAD,if_pos ⟨h,hk⟩]
 | succ d =>
  have h0:=(zA6 h hk).1;rw [zAD,if_pos ⟨h,by omega⟩,h0]
  rfl
theorem zD8:∀d l r,zAD d l=some r→zAD (d+1) l=some r:=by
 intro d
 induction d with
 | zero =>
  intro l r h
  cases l with
  | nil=>rw [zAD] at h;cases h
  | cons n l =>
   rw [zAD] at h
   by_cases hn:ndOk n=true∧n.kind=2
   · rw [if_pos hn] at h
     rw [zD9 hn.1 hn.2];exact h
   · rw [if_neg hn] at h;cases h
 | succ d ih =>
  intro l r h
  cases l with
  | nil=>rw [zAD] at h;cases h
  | cons n l =>
   rw [zAD] at h ⊢
   by_cases hn:ndOk n=true∧0≤n.many
   · rw [if_pos hn] at h ⊢
     cases hk:zAF (zAD d) n.many.toNat false l with
     | none=>rw [hk] at h;cases h
     | some y =>
      rw [hk] at h;rw [zFm ih _ _ _ _ hk];exact h
   · rw [if_neg hn] at h;cases h
theorem zO1 {d e:Nat} (hde:d≤e) {l r:List Nd} (h:zAD d l=some r):zAD e l=some r:=by
 induction hde with
 | refl=>exact h
 | step _ ih=>exact zD8 _ _ _ ih
theorem zEZ {d e:Nat} (hde:d≤e) {k:Nat} {b:Bool} {l:List Nd} {y:Bool × List Nd} (h:zAF (zAD d) k b l=some y):zAF (zAD e) k b l=some y:=zFm (fun _ _ h=>zO1 hde h) k b l y h
theorem zBE {d:Nat} {n:Nd} {l r:List Nd} (h:zAD d (n::l)=some r):ndOk n=true∧0≤n.many∧∃b,zAF (zAD (d - 1)) n.many.toNat false l=some (b,r):=by
 cases d with
 | zero =>
  rw [zAD] at h
  by_cases hn:ndOk n=true∧n.kind=2
  · rw [if_pos hn] at h
    injection h with h;have h0:=(zA6 hn.1 hn.2).1;exact ⟨hn.1,by omega,false,by rw [h0,←h];rfl⟩
  · rw [if_neg hn] at h;cases h
 | succ d =>
  rw [zAD] at h
  by_cases hn:ndOk n=true∧0≤n.many
  · rw [if_pos hn] at h
    cases hk:zAF (zAD d) n.many.toNat false l with
    | none=>rw [hk] at h;cases h
    | some y =>
     rw [hk] at h;obtain ⟨b,y⟩:=y;have h:y=r:=Option.some.inj h;subst h;exact ⟨hn.1,hn.2,b,by rw [Nat.add_sub_cancel,hk]⟩
  · rw [if_neg hn] at h;cases h
theorem zOQ {d:Nat} (hd:∀l r,zAD d l=some r→∀i,i < l.length - r.length→∃r',zAD d (l.drop i)=some r'):∀(k:Nat) (b b':Bool) (l r:List Nd),zAF (zAD d) k b l=some (b',r)→∀i,i < l.length - r.length→∃r',zAD d (l.drop i)=some r':=by
 intro k
 induction k with
 | zero =>
  intro b b' l r h i hi;rw [zAF] at h;obtain ⟨rfl,rfl⟩:=(Prod.mk.injEq _ _ _ _).mp (Option.some.inj h)
  omega
 | succ k ih =>
  intro b b' l r h i hi
  cases l with
  | nil=>rw [zAF] at h;cases h
  | cons n l =>
   rw [zAF] at h
   by_cases hb:b=true∧n.kind=2
   · rw [if_pos hb] at h;cases h
   · rw [if_neg hb] at h
     cases hn:zAD d (n::l) with
     | none=>rw [hn] at h;cases h
     | some y =>
      rw [hn] at h;have h:zAF (zAD d) k (decide (n.kind=2)) y=some (b',r):=h
      by_cases h1:i < (n::l).length - y.length
      · exact hd _ _ hn i h1
      · have hy:=zDA hn
        have hyl:=zCH hn;have hrl:=zBX h;obtain ⟨r',hr'⟩:=ih _ _ _ _ h (i - ((n::l).length - y.length)) (by omega);refine ⟨r',?_⟩;rw [hy,List.drop_drop] at hr';rw [←hy,show (n::l).length - y.length+(i - ((n::l).length - y.length))=i by omega] at hr';exact hr'
theorem zO0:∀(d:Nat) (l r:List Nd),zAD d l=some r→∀i,i < l.length - r.length→∃r',zAD d (l.drop i)=some r':=by
 intro d
 induction d with
 | zero =>
  intro l r h i hi
  cases l with
  | nil=>rw [zAD] at h;cases h
  | cons n l =>
   have h':=h;rw [zAD] at h
   by_cases hn:ndOk n=true∧n.kind=2
   · rw [if_pos hn] at h
     injection h with h;subst h
     simp at hi
     obtain rfl:i=0:=by omega
     exact ⟨l,h'⟩
   · rw [if_neg hn] at h;cases h
 | succ d ih =>
  intro l r h i hi
  cases l with
  | nil=>rw [zAD] at h;cases h
  | cons n l =>
   cases i with
   | zero=>exact ⟨r,h⟩
   | succ i =>
    obtain ⟨_,_,b,hk⟩:=zBE h;rw [Nat.add_sub_cancel] at hk;have hl:=zBX hk;obtain ⟨r',h1⟩:=zOQ ih _ _ _ _ _ hk i (by simp at hi;omega);exact ⟨r',zD8 _ _ _ h1⟩
def zBZ (g:List Nd→Option (List Nd)):Nat→Nat→List Nd→List Nat
 | 0,_,_=>[]
 | k+1,p,l=>p::match g l with
  | none=>[]
  | some r=>zBZ g k (p+(l.length - r.length)) r
def zCp (v:List Nd) (i:Nat):List Nat:=match v[i]? with
 | none=>[]
 | some n=>zBZ (zAD 12) n.many.toNat (i+1) (v.drop (i+1))
def zBA (v:List Nd) (i:Int):Int:=if mayV v then (if i < 0∨(v.length:Int)≤i then 2 else 0) else 8
def zA4 (v:List Nd) (i:Nat):List Nd:=match zAD 12 (v.drop i) with
 | none=>[]
 | some r=>(v.drop i).take ((v.drop i).length - r.length)
theorem zE9 {v:List Nd} (h:mayV v=true) {i:Nat} (hi:i < v.length):∃r,zAD 12 (v.drop i)=some r:=by
 obtain ⟨_,_,h3⟩:=zAj.1 h;exact zO0 12 v [] h3 i (by simpa using hi)
theorem zGR {v:List Nd} {i:Nat} {r:List Nd} (h:zAD 12 (v.drop i)=some r):zA4 v i=(v.drop i).take ((v.drop i).length - r.length)∧v.drop i=zA4 v i++r:=by
 have e:zA4 v i=(v.drop i).take ((v.drop i).length - r.length):=by unfold zA4;rw [h]
 obtain ⟨p,_,h2,_⟩:=zAZ 12 _ _ h;refine ⟨e,?_⟩;rw [e,h2,List.length_append,Nat.add_sub_cancel,List.take_left]
theorem zMh {v:List Nd} (h:mayV v=true) {i:Nat} (hi:i < v.length) (hk:(v[i]'hi).kind=1):mayV (zA4 v i)=true:=by
 obtain ⟨r,hr⟩:=zE9 h hi;obtain ⟨h1,h2⟩:=zGR hr;obtain ⟨p,hp,h4,h5⟩:=zAZ 12 _ _ hr;have h6:zA4 v i=p:=by rw [h1,h4,List.length_append,Nat.add_sub_cancel,List.take_left]
 have hl:=(zAj.1 h).1;rw [h6];refine zAj.2 ⟨?_,?_,?_⟩
 · have:(v.drop i).length=v.length - i:=List.length_drop
   rw [h4,List.length_append] at this
   omega
 · cases p with
   | nil=>exact absurd rfl hp
   | cons n p =>
    rw [List.drop_eq_getElem_cons hi] at h4;injection h4 with h4 _;exact ⟨n,p,rfl,h4 ▸ hk⟩
 · have:=h5 []
   rwa [List.append_nil] at this
def zAz (l:List At):List Pr:=l.map fun a=>⟨a.name,a.value⟩
def zAp (l:List Pr):List At:=l.map fun p=>⟨[],p.name,p.value⟩
def zBJ (g:List Nd→List Tk × List Nd):Nat→List Nd→List Tk × List Nd
 | 0,l=>([],l)
 | k+1,l=>((g l).1++(zBJ g k (g l).2).1,(zBJ g k (g l).2).2)
def zAn:Nat→List Nd→List Tk × List Nd
 | _,[]=>([],[])
 | 0,n::l=>([⟨4,[],[],n.text⟩],l)
 | d+1,n::l=>if n.kind=2 then ([⟨4,[],[],n.text⟩],l) else if n.many=0 then ([⟨3,n.name,zAz n.attrs,[]⟩],l)
  else (⟨1,n.name,zAz n.attrs,[]⟩::((zBJ (zAn d) n.many.toNat l).1++[⟨2,n.name,[],[]⟩]),(zBJ (zAn d) n.many.toNat l).2)
theorem zFz {g:List Nd→Option (List Nd)} {t:List Nd→List Tk × List Nd} (ht:∀l r,g l=some r→(t l).2=r):∀(k:Nat) (b:Bool) (l:List Nd) (b':Bool) (r:List Nd),zAF g k b l=some (b',r)→(zBJ t k l).2=r:=by
 intro k
 induction k with
 | zero =>
  intro b l b' r h;rw [zAF] at h;obtain ⟨rfl,rfl⟩:=(Prod.mk.injEq _ _ _ _).mp (Option.some.inj h)
  rfl
 | succ k ih =>
  intro b l b' r h
  cases l with
  | nil=>rw [zAF] at h;cases h
  | cons n l =>
   rw [zAF] at h
   by_cases hb:b=true∧n.kind=2
   · rw [if_pos hb] at h;cases h
   · rw [if_neg hb] at h
     cases hn:g (n::l) with
     | none=>rw [hn] at h;cases h
     | some y =>
      rw [hn] at h;rw [zBJ,ht _ _ hn];exact ih _ _ _ _ h
theorem zEB:∀(d:Nat) (l r:List Nd),zAD d l=some r→(zAn d l).2=r:=by
 intro d
 induction d with
 | zero =>
  intro l r h
  cases l with
  | nil=>rw [zAD] at h;cases h
  | cons n l =>
   rw [zAD] at h
   by_cases hn:ndOk n=true∧n.kind=2
   · rw [if_pos hn] at h
     injection h with h
   · rw [if_neg hn] at h;cases h
 | succ d ih =>
  intro l r h
  cases l with
  | nil=>rw [zAD] at h;cases h
  | cons n l =>
   obtain ⟨h1,h2,b,h3⟩:=zBE h;rw [Nat.add_sub_cancel] at h3;rw [zAn]
   by_cases hk:n.kind=2
   · rw [if_pos hk]
     rw [(zA6 h1 hk).1,show (0:Int).toNat=0 from rfl,zAF] at h3;exact (congrArg Prod.snd (Option.some.inj h3))
   · rw [if_neg hk]
     by_cases hm:n.many=0
     · rw [if_pos hm]
       rw [hm,show (0:Int).toNat=0 from rfl,zAF] at h3;exact (congrArg Prod.snd (Option.some.inj h3))
     · rw [if_neg hm]
       exact zFz ih _ _ _ _ _ h3
def cnt (v:List Nd):Nat:=v.length+v.countP fun n=>decide (0 < n.many)
theorem zF8 (a b:List Nd):cnt (a++b)=cnt a+cnt b:=by unfold cnt;rw [List.length_append,List.countP_append];omega
theorem zH2 {d:Nat} (ht:∀l r,zAD d l=some r→(zAn d l).1.length+cnt r=cnt l):∀(k:Nat) (b:Bool) (l:List Nd) (b':Bool) (r:List Nd),zAF (zAD d) k b l=some (b',r)→(zBJ (zAn d) k l).1.length+cnt r=cnt l:=by
 intro k
 induction k with
 | zero =>
  intro b l b' r h;rw [zAF] at h;obtain ⟨rfl,rfl⟩:=(Prod.mk.injEq _ _ _ _).mp (Option.some.inj h)
  simp [zBJ]
 | succ k ih =>
  intro b l b' r h
  cases l with
  | nil=>rw [zAF] at h;cases h
  | cons n l =>
   rw [zAF] at h
   by_cases hb:b=true∧n.kind=2
   · rw [if_pos hb] at h;cases h
   · rw [if_neg hb] at h
     cases hn:zAD d (n::l) with
     | none=>rw [hn] at h;cases h
     | some y =>
      rw [hn] at h;have h1:=ht _ _ hn;have h2:=ih _ _ _ _ h;rw [zBJ,zEB _ _ _ hn,List.length_append]
      omega
theorem zFU:∀(d:Nat) (l r:List Nd),zAD d l=some r→(zAn d l).1.length+cnt r=cnt l:=by
 intro d
 induction d with
 | zero =>
  intro l r h
  cases l with
  | nil=>rw [zAD] at h;cases h
  | cons n l =>
   rw [zAD] at h
   by_cases hn:ndOk n=true∧n.kind=2
   · rw [if_pos hn] at h
     injection h with h;subst h;have:=(zA6 hn.1 hn.2).1;rw [zAn];unfold cnt;rw [List.countP_cons,if_neg (by simp;omega)]
     simp
     omega
   · rw [if_neg hn] at h;cases h
 | succ d ih =>
  intro l r h
  cases l with
  | nil=>rw [zAD] at h;cases h
  | cons n l =>
   obtain ⟨h1,h2,b,h3⟩:=zBE h;rw [Nat.add_sub_cancel] at h3;rw [zAn]
   have hc:cnt (n::l)=1+(if 0 < n.many then 1 else 0)+cnt l:=by
    unfold cnt;rw [List.countP_cons]
    simp
    split <;> omega
   by_cases hk:n.kind=2
   · have h0:=(zA6 h1 hk).1
     rw [if_pos hk];rw [h0,show (0:Int).toNat=0 from rfl,zAF] at h3;obtain ⟨_,rfl⟩:=(Prod.mk.injEq _ _ _ _).mp (Option.some.inj h3);rw [hc,if_neg (by omega)]
     simp
   · rw [if_neg hk]
     by_cases hm:n.many=0
     · rw [if_pos hm]
       rw [hm,show (0:Int).toNat=0 from rfl,zAF] at h3;obtain ⟨_,rfl⟩:=(Prod.mk.injEq _ _ _ _).mp (Option.some.inj h3);rw [hc,if_neg (by omega)]
       simp
     · rw [if_neg hm]
       have:=zH2 ih _ _ _ _ _ h3;rw [hc,if_pos (by omega)]
       simp
       omega
def rawN (n:Nd):Bool:=n.space.isEmpty&&n.attrs.all fun a=>a.space.isEmpty
def rawV (v:List Nd):Bool:=v.all rawN
theorem zOx {v:List Nd}:rawV v=true↔∀n∈v,n.space=[]∧∀a∈n.attrs,a.space=[]:=by
 unfold rawV rawN
 simp [List.all_eq_true]
def zAw (v:List Nd):List Tk × Int:=if mayV v=true∧rawV v=true then (if 512 < (zAn 12 v).1.length then ([],4) else ((zAn 12 v).1,0)) else ([],8)
structure PS where
 V:List Nd
 O:List Nat
def zCg (n:Nd):Nd:={ n with many:=n.many+1 }
def bump (O:List Nat) (V:List Nd):List Nd:=match O.getLast? with
 | none=>V
 | some i=>V.modify i zCg
def zA3 (t:Tk):Nd:=if t.kind=4 then ⟨2,[],[],[],t.text,0⟩ else ⟨1,[],t.name,zAp t.attrs,[],0⟩
def zBU (s:PS) (b:Bool) (t:Tk):Except Int PS :=
 if t.kind=4 then (if b=true then .error 80 else if s.O=[] then (if t.text.all blk=true then .ok s else .error 80) else .ok ⟨bump s.O s.V++[zA3 t],s.O⟩)
 else if t.kind=2 then match s.O.getLast? with
  | none=>.error 80
  | some i=>if (s.V[i]?.map (·.name))=some t.name then .ok ⟨s.V,s.O.dropLast⟩ else .error 80
 else if s.O=[]∧s.V≠[] then .error 80 else if s.O.length=12 then .error 100
 else .ok ⟨bump s.O s.V++[zA3 t],if t.kind=3 then s.O else s.O++[s.V.length]⟩
def runP:PS→Bool→List Tk→Except Int PS
 | s,_,[]=>.ok s
 | s,b,t::r=>match zBU s b t with
  | .error e=>.error e
  | .ok s'=>runP s' (decide (t.kind=4)) r
def endP (x:Except Int PS):List Nd × Int:=match x with
 | .error e=>([],e)
 | .ok s=>if s.V=[]∨s.O≠[] then ([],80) else (s.V,0)
def zBO (l:List Tk):List Nd × Int :=
 if 512 < l.length then ([],4) else if l.all mayT=true then endP (runP ⟨[],[]⟩ false l) else ([],8)
theorem zLa (O:List Nat) (i:Nat) (V:List Nd):bump (O++[i]) V=V.modify i zCg:=by unfold bump;rw [List.getLast?_concat]
theorem zKg (A:List Nd) (n:Nd) (B:List Nd):(A++n::B).modify A.length zCg=A++zCg n::B:=by
 induction A with
 | nil=>rfl
 | cons a A ih=>rw [List.cons_append,List.length_cons,List.modify_succ_cons,ih];rfl
theorem zKO:∀(l acc:List Pr),zDG acc l=true↔((l.map (·.name)).Nodup∧(∀p∈l,zAO p.name=true∧okT p.value=true∧hasL acc p.name=false)):=by
 intro l
 induction l with
 | nil=>intro acc;simp [zDG]
 | cons p r ih =>
  intro acc;rw [zDG];simp only [Bool.and_eq_true,Bool.not_eq_true',ih,List.map_cons,List.nodup_cons,List.mem_cons,forall_eq_or_imp]
  have hh:∀x:Pr,hasL (acc++[p]) x.name=false↔hasL acc x.name=false∧p.name≠x.name:=by
   intro x;unfold hasL;rw [List.any_append,Bool.or_eq_false_iff]
   simp
  constructor
  · rintro ⟨⟨⟨h1,h2⟩,h3⟩,h4,h5⟩
    refine ⟨⟨fun hm=>?_,h4⟩,⟨h1,h3,h2⟩,fun x hx=>?_⟩
    · obtain ⟨x,hx,e⟩:=List.mem_map.1 hm
      exact ((hh x).1 (h5 x hx).2.2).2 e.symm
    · obtain ⟨k1,k2,k3⟩:=h5 x hx
      exact ⟨k1,k2,((hh x).1 k3).1⟩
  · rintro ⟨⟨h1,h2⟩,⟨h3,h4,h5⟩,h6⟩
    refine ⟨⟨⟨h3,h5⟩,h4⟩,h2,fun x hx=>?_⟩;obtain ⟨k1,k2,k3⟩:=h6 x hx;exact ⟨k1,k2,(hh x).2 ⟨k3,fun e=>h1 (List.mem_map.2 ⟨x,hx,e.symm⟩)⟩⟩
theorem zGQ:okT []=true:=rfl
theorem zIV {l:List Pr} (h:zCR l=true):zDt (zAp l)=true:=by
 unfold zCR at h;rw [Bool.and_eq_true,decide_eq_true_eq,zKO] at h;obtain ⟨⟨h1,h2⟩,h3⟩:=h;unfold zDt;simp only [Bool.and_eq_true,decide_eq_true_eq];refine ⟨⟨List.all_eq_true.2 fun a ha=>?_,?_⟩,by unfold zAp;rwa [List.length_map]⟩
 · obtain ⟨p,hp,rfl⟩:=List.mem_map.1 ha
   obtain ⟨k1,k2,_⟩:=h2 p hp;unfold atOk;rw [show zAO p.name=true from k1,show okT p.value=true from k2]
   rfl
 · have:(zAp l).map key=(l.map (·.name)).map fun x=>(([]:List UInt8),x):=by
    unfold zAp;rw [List.map_map,List.map_map]
    rfl
   rw [this];exact List.Pairwise.map _ (fun a b hab e=>hab ((Prod.mk.injEq _ _ _ _).mp e).2) h1
theorem zJ1 {t:Tk} (h:mayT t=true) (h2:t.kind≠2):ndOk (zA3 t)=true∧rawN (zA3 t)=true∧(zA3 t).many=0∧(zA3 t).kind=(if t.kind=4 then 2 else 1):=by
 rcases zCZ h with ⟨b,hk,k1,k3,k4⟩ | ⟨hk,_⟩ | ⟨hk,k1,k2,k3,k4⟩
 · have hk4:t.kind≠4:=by rw [hk];cases b <;> decide
   have e:zA3 t=⟨1,[],t.name,zAp t.attrs,[],0⟩:=by unfold zA3;rw [if_neg hk4]
   refine ⟨?_,?_,by rw [e],by rw [e,if_neg hk4]⟩
   · rw [e]
     unfold ndOk;rw [if_pos rfl];simp only [k1,zIV k3]
     rfl
   · rw [e]
     unfold rawN zAp
     simp
 · exact absurd hk h2
 · have e:zA3 t=⟨2,[],[],[],t.text,0⟩:=by unfold zA3;rw [if_pos hk]
   refine ⟨?_,by rw [e];rfl,by rw [e],by rw [e,if_pos hk]⟩;rw [e];unfold ndOk;rw [if_neg (show ¬(2:Nat)=1 by decide),if_pos rfl]
   simp [k3,k4]
theorem zKe {g:List Nd→Option (List Nd)}:∀(k:Nat) (b b1:Bool) (l:List Nd) (n:Nd) (m r:List Nd),zAF g k b l=some (b1,n::m)→¬(b1=true∧n.kind=2)→g (n::m)=some r→zAF g (k+1) b l=some (decide (n.kind=2),r):=by
 intro k
 induction k with
 | zero =>
  intro b b1 l n m r h hb hg;rw [zAF] at h;obtain ⟨rfl,rfl⟩:=(Prod.mk.injEq _ _ _ _).mp (Option.some.inj h);rw [zAF,if_neg hb,hg]
  rfl
 | succ k ih =>
  intro b b1 l n m r h hb hg
  cases l with
  | nil=>rw [zAF] at h;cases h
  | cons x l =>
   rw [zAF] at h
   by_cases hx:b=true∧x.kind=2
   · rw [if_pos hx] at h;cases h
   · rw [if_neg hx] at h
     cases hn:g (x::l) with
     | none=>rw [hn] at h;cases h
     | some y =>
      rw [hn] at h;rw [zAF,if_neg hx,hn];exact ih _ _ _ _ _ _ h hb hg
theorem zFn {d k:Nat} {b b1:Bool} {l:List Nd} {n:Nd} {m:List Nd} (h:zAF (zAD d) k b l=some (b1,[])) (hb:¬(b1=true∧n.kind=2)) (hg:zAD d (n::m)=some []):zAF (zAD d) (k+1) b (l++n::m)=some (decide (n.kind=2),[]):=by
 obtain ⟨p,e,_,h3⟩:=zBB (zAZ d) _ _ _ _ _ h;rw [List.append_nil] at e;subst e;exact zKe k b b1 _ n m [] (h3 _) hb hg
structure Fr where
 n:Nd
 ks:List Nd
def zDc:List Fr→List Nd
 | []=>[]
 | f::fs=>f.n::(f.ks++zDc fs)
def posF:Nat→List Fr→List Nat
 | _,[]=>[]
 | p,f::fs=>p::posF (p+1+f.ks.length) fs
theorem zD1 (gs:List Fr) (f:Fr):zDc (gs++[f])=zDc gs++f.n::f.ks:=by
 induction gs with
 | nil=>simp [zDc]
 | cons g gs ih=>simp [zDc,ih]
theorem zHb:∀(gs:List Fr) (f:Fr) (p:Nat),posF p (gs++[f])=posF p gs++[p+(zDc gs).length]:=by
 intro gs
 induction gs with
 | nil=>intro f p;simp [posF,zDc]
 | cons g gs ih =>
  intro f p;rw [List.cons_append,posF,posF,ih,List.cons_append,zDc,List.length_cons,List.length_append];rw [show p+1+g.ks.length+(zDc gs).length=p+(g.ks.length+(zDc gs).length+1) by omega]
def frOk (d:Nat) (f:Fr) (m:Nat) (b:Bool):Prop:=ndOk f.n=true∧f.n.kind=1∧rawN f.n=true∧rawV f.ks=true∧1≤d∧zAF (zAD (d - 1)) m false f.ks=some (b,[])
def okG:Nat→List Fr→Prop
 | _,[]=>True
 | d,f::gs=>(1≤f.n.many∧∃b,frOk d f (f.n.many.toNat - 1) b)∧okG (d - 1) gs
theorem zJ3:∀(gs:List Fr) (f:Fr) (d:Nat),okG d (gs++[f])↔okG d gs∧(1≤f.n.many∧∃b,frOk (d - gs.length) f (f.n.many.toNat - 1) b):=by
 intro gs
 induction gs with
 | nil=>intro f d;simp [okG]
 | cons g gs ih =>
  intro f d;rw [List.cons_append,okG,okG,ih,List.length_cons,show d - 1 - gs.length=d - (gs.length+1) by omega,and_assoc,and_assoc,and_assoc]
def cntF (fs:List Fr):Nat:=(fs.map fun f=>1+cnt f.ks).sum
def InvP (s:PS) (b:Bool) (i:Nat):Prop :=
 (∃gs f b1,s.V=zDc gs++f.n::f.ks∧s.O=posF 0 gs++[(zDc gs).length]∧okG 12 gs∧0≤f.n.many∧frOk (12 - gs.length) f f.n.many.toNat b1∧(b1=true→b=true)∧cntF gs+1+cnt f.ks≤i) ∨
 (s.O=[]∧(s.V=[]∨((∃n l,s.V=n::l∧n.kind=1)∧zAD 12 s.V=some []∧rawV s.V=true∧cnt s.V≤i)))
theorem zLZ (A:List Nd) (n:Nd) (B:List Nd) (O:List Nat):bump (O++[A.length]) (A++n::B)=A++zCg n::B:=by rw [zLa,zKg]
theorem zIa {n:Nd} (h:n.many=0):cnt [n]=1:=by
 unfold cnt;rw [List.countP_cons,if_neg (by simp;omega)]
 simp
theorem zHG {d:Nat} {f:Fr} {b1:Bool} {m:Nd} {ks:List Nd} (h0:0≤f.n.many) (h:frOk d f f.n.many.toNat b1) (hb:¬(b1=true∧m.kind=2)) (hm:zAD (d - 1) (m::ks)=some []) (hr:rawV (m::ks)=true) :
 frOk d ⟨zCg f.n,f.ks++m::ks⟩ (zCg f.n).many.toNat (decide (m.kind=2)):=by
 obtain ⟨k1,k2,k3,k4,k5,k6⟩:=h;refine ⟨?_,k2,k3,?_,k5,?_⟩
 · unfold ndOk at k1 ⊢
   rw [if_pos k2] at k1;rw [if_pos (show (zCg f.n).kind=1 from k2)];exact k1
 · show rawV (f.ks++m::ks)=true
   unfold rawV at k4 hr ⊢;rw [List.all_append,Bool.and_eq_true];exact ⟨k4,hr⟩
 · have e:(zCg f.n).many.toNat=f.n.many.toNat+1:=by show (f.n.many+1).toNat=_;omega
   rw [e];exact zFn k6 hb hm
theorem InvP.step {s s':PS} {b:Bool} {t:Tk} {i:Nat} (h:InvP s b i) (ht:mayT t=true) (hs:zBU s b t=.ok s'):InvP s' (decide (t.kind=4)) (i+1):=by
 unfold zBU at hs
 by_cases h4:t.kind=4
 · rw [if_pos h4] at hs
   by_cases hb:b=true
   · rw [if_pos hb] at hs;cases hs
   · rw [if_neg hb] at hs
     by_cases hO:s.O=[]
     · rw [if_pos hO] at hs
       by_cases hw:t.text.all blk=true
       · rw [if_pos hw] at hs
         injection hs with hs;subst hs;rcases h with ⟨gs,f,_,_,e,_⟩ | ⟨e,h⟩
         · rw [hO] at e;simp at e
         · refine .inr ⟨e,?_⟩
           rcases h with h | ⟨h1,h2,h3,h4⟩
           · exact .inl h
           · exact .inr ⟨h1,h2,h3,by omega⟩
       · rw [if_neg hw] at hs;cases hs
     · rw [if_neg hO] at hs
       injection hs with hs;subst hs;obtain ⟨n1,n2,n3,n4⟩:=zJ1 ht (by omega);rw [if_pos h4] at n4;rcases h with ⟨gs,f,b1,eV,eO,hG,h0,hF,hb1,hc⟩ | ⟨e,_⟩
       · refine .inl ⟨gs,⟨zCg f.n,f.ks++[zA3 t]⟩,_,?_,eO,hG,?_,zHG h0 hF (fun hh=>hb (hb1 hh.1)) (zD9 n1 n4) ?_,fun _=>by rw [h4];rfl,?_⟩
         · show bump s.O s.V++[zA3 t]=_
           rw [eO,eV,zLZ,List.append_assoc]
           rfl
         · show 0≤f.n.many+1
           omega
         · unfold rawV
           simp [n2]
         · show cntF gs+1+cnt (f.ks++[zA3 t])≤i+1
           rw [zF8,zIa n3]
           omega
       · exact absurd e hO
 · rw [if_neg h4] at hs
   rw [decide_eq_false h4]
   by_cases h2:t.kind=2
   · rw [if_pos h2] at hs
     rcases h with ⟨gs,f,b1,eV,eO,hG,h0,hF,hb1,hc⟩ | ⟨e,_⟩
     · rw [eO,List.getLast?_concat] at hs
       dsimp only at hs
       by_cases hn:(s.V[(zDc gs).length]?.map (·.name))=some t.name
       · rw [if_pos hn,List.dropLast_concat] at hs
         injection hs with hs;subst hs;obtain ⟨k1,k2,k3,k4,k5,k6⟩:=hF
         have hrest:zAD (12 - gs.length) (f.n::f.ks)=some []:=by
          obtain ⟨d,hd⟩:∃d,12 - gs.length=d+1:=⟨12 - gs.length - 1,by omega⟩;rw [hd,Nat.add_sub_cancel] at k6;rw [hd,zAD,if_pos ⟨k1,h0⟩,k6]
          rfl
         have hraw:rawV (f.n::f.ks)=true:=by
          unfold rawV at k4 ⊢;rw [List.all_cons,k3,k4]
          rfl
         have hcn:cnt (f.n::f.ks)≤cnt f.ks+2:=by
          rw [show f.n::f.ks=[f.n]++f.ks from rfl,zF8]
          have:cnt [f.n]≤2:=by
           unfold cnt;have:=List.countP_le_length (p:=fun n:Nd=>decide (0 < n.many)) (l:=[f.n])
           simp at this ⊢
           omega
          omega
         rcases List.eq_nil_or_concat gs with rfl | ⟨gs',g,egs⟩
         · refine .inr ⟨rfl,.inr ⟨⟨f.n,f.ks,eV,k2⟩,?_,?_,?_⟩⟩
           · show zAD 12 s.V=some []
             rw [eV];exact hrest
           · show rawV s.V=true
             rw [eV];exact hraw
           · show cnt s.V≤i+1
             rw [eV];show cnt (f.n::f.ks)≤i+1
             simp [cntF] at hc
             omega
         · rw [List.concat_eq_append] at egs
           subst egs;obtain ⟨g1,g2,b2,g3⟩:=(zJ3 gs' g 12).1 hG;rw [List.length_append,List.length_singleton] at hrest;obtain ⟨q1,q2,q3,q4,q5,q6⟩:=g3;refine .inl ⟨gs',⟨g.n,g.ks++f.n::f.ks⟩,false,?_,?_,g1,by show 0≤g.n.many;omega,⟨q1,q2,q3,?_,q5,?_⟩,(fun hh=>by cases hh),?_⟩
           · show s.V=_
             rw [eV,zD1]
             simp
           · show posF 0 (gs'++[g])=_
             rw [zHb,Nat.zero_add]
           · show rawV (g.ks++f.n::f.ks)=true
             unfold rawV at q4 hraw ⊢;rw [List.all_append,q4,hraw]
             rfl
           · have:=zFn (n:=f.n) (m:=f.ks) q6 (fun hh=>by omega) (by rw [show 12 - gs'.length - 1=12 - (gs'.length+1) by omega];exact hrest)
             rw [show g.n.many.toNat - 1+1=g.n.many.toNat by omega,k2] at this;exact this
           · show cntF gs'+1+cnt (g.ks++f.n::f.ks)≤i+1
             rw [zF8];unfold cntF at hc ⊢;rw [List.map_append,List.sum_append] at hc
             simp at hc
             omega
       · rw [if_neg hn] at hs;cases hs
     · rw [e] at hs
       cases hs
   · rw [if_neg h2] at hs
     obtain ⟨n1,n2,n3,n4⟩:=zJ1 ht h2;rw [if_neg h4] at n4
     by_cases hO:s.O=[]∧s.V≠[]
     · rw [if_pos hO] at hs;cases hs
     · rw [if_neg hO] at hs
       by_cases h12:s.O.length=12
       · rw [if_pos h12] at hs;cases hs
       · rw [if_neg h12] at hs
         injection hs with hs;subst hs;have hrawt:rawV [zA3 t]=true:=by unfold rawV;simp [n2]
         have hone:∀d,1≤d→zAD d [zA3 t]=some []:=by
          intro d hd;obtain ⟨d,rfl⟩:∃e,d=e+1:=⟨d - 1,by omega⟩;rw [zAD,if_pos ⟨n1,by omega⟩,n3]
          rfl
         rcases h with ⟨gs,f,b1,eV,eO,hG,h0,hF,hb1,hc⟩ | ⟨e,h⟩
         · have hlen:(posF 0 gs).length=gs.length:=by
            have:∀(gs:List Fr) (p:Nat),(posF p gs).length=gs.length:=by
             intro gs
             induction gs with
             | nil=>intro p;rfl
             | cons g gs ih=>intro p;simp [posF,ih]
            exact this gs 0
           rw [eO,List.length_append,List.length_singleton,hlen] at h12;have hd:=hF.2.2.2.2.1;have eb:bump s.O s.V=zDc gs++zCg f.n::f.ks:=by rw [eO,eV,zLZ]
           by_cases h3:t.kind=3
           · rw [if_pos h3,eb]
             refine .inl ⟨gs,⟨zCg f.n,f.ks++[zA3 t]⟩,_,?_,eO,hG,?_,zHG h0 hF (fun hh=>by omega) (hone _ (by omega)) hrawt,fun hh=>?_,?_⟩
             · simp
             · show 0≤f.n.many+1
               omega
             · rw [n4] at hh
               cases hh
             · show cntF gs+1+cnt (f.ks++[zA3 t])≤i+1
               rw [zF8,zIa n3]
               omega
           · rw [if_neg h3,eb]
             refine .inl ⟨gs++[⟨zCg f.n,f.ks⟩],⟨zA3 t,[]⟩,false,?_,?_,(zJ3 _ _ _).2 ⟨hG,?_,b1,?_⟩,?_,⟨n1,n4,n2,rfl,?_,?_⟩,(fun hh=>by cases hh),?_⟩
             · rw [zD1]
             · show s.O++[s.V.length]=_
               rw [zHb,zD1,eO,eV,Nat.zero_add]
               simp
             · show 1≤f.n.many+1
               omega
             · obtain ⟨k1,k2,k3,k4,k5,k6⟩:=hF
               refine ⟨?_,k2,k3,k4,k5,?_⟩
               · unfold ndOk at k1 ⊢
                 rw [if_pos k2] at k1;rw [if_pos (show (zCg f.n).kind=1 from k2)];exact k1
               · show zAF (zAD (12 - gs.length - 1)) ((f.n.many+1).toNat - 1) false f.ks=some (b1,[])
                 rw [show (f.n.many+1).toNat - 1=f.n.many.toNat by omega];exact k6
             · show 0≤(zA3 t).many
               omega
             · rw [List.length_append,List.length_singleton]
               omega
             · show zAF _ (zA3 t).many.toNat false []=_
               rw [n3]
               rfl
             · unfold cntF at hc ⊢
               rw [List.map_append,List.sum_append]
               simp [cnt] at hc ⊢
               omega
         · have hV:s.V=[]:=by
            by_cases hv:s.V=[]
            · exact hv
            · exact absurd ⟨e,hv⟩ hO
           rw [e,hV]
           by_cases h3:t.kind=3
           · rw [if_pos h3]
             exact .inr ⟨rfl,.inr ⟨⟨zA3 t,[],rfl,n4⟩,hone 12 (by decide),hrawt,by show cnt [zA3 t]≤i+1;rw [zIa n3];omega⟩⟩
           · rw [if_neg h3]
             refine .inl ⟨[],⟨zA3 t,[]⟩,false,rfl,rfl,trivial,by show 0≤(zA3 t).many;omega,⟨n1,n4,n2,rfl,by decide,?_⟩,(fun hh=>by cases hh),by simp [cntF,cnt]⟩;show zAF _ (zA3 t).many.toNat false []=_;rw [n3]
             rfl
theorem InvP.run:∀(l:List Tk) (s s':PS) (b:Bool) (i:Nat),InvP s b i→(∀t∈l,mayT t=true)→runP s b l=.ok s'→∃b',InvP s' b' (i+l.length):=by
 intro l
 induction l with
 | nil =>
  intro s s' b i h _ hr;rw [runP] at hr;injection hr with hr;subst hr;exact ⟨b,h⟩
 | cons t l ih =>
  intro s s' b i h ht hr;rw [runP] at hr
  cases hst:zBU s b t with
  | error e=>rw [hst] at hr;cases hr
  | ok s1 =>
   rw [hst] at hr;obtain ⟨b',h'⟩:=ih s1 s' _ (i+1) (h.step (ht t (by simp)) hst) (fun x hx=>ht x (by simp [hx])) hr;exact ⟨b',by rw [List.length_cons,show i+(l.length+1)=i+1+l.length by omega];exact h'⟩
theorem zQH {x:Except Int PS} {v:List Nd} (h:endP x=(v,0)) (hx:∀e,x=.error e→e≠0):∃s,x=.ok s∧s.V=v∧s.V≠[]∧s.O=[]:=by
 cases x with
 | error e =>
  have h:(([]:List Nd),e)=(v,0):=h;exact absurd ((Prod.mk.injEq _ _ _ _).mp h).2 (hx e rfl)
 | ok s =>
  have h:(if s.V=[]∨s.O≠[] then (([]:List Nd),(80:Int)) else (s.V,0))=(v,0):=h
  by_cases hc:s.V=[]∨s.O≠[]
  · rw [if_pos hc] at h
    cases h
  · rw [if_neg hc] at h
    rw [not_or,Decidable.not_not] at hc;exact ⟨s,rfl,((Prod.mk.injEq _ _ _ _).mp h).1,hc.1,hc.2⟩
theorem zHo {s:PS} {b:Bool} {t:Tk} {e:Int} (h:zBU s b t=.error e):e=80∨e=100:=by
 unfold zBU at h
 repeat' split at h
 all_goals first
  | (cases h;done)
  | (injection h with h;subst h;simp)
theorem zGW:∀(l:List Tk) (s:PS) (b:Bool) (e:Int),runP s b l=.error e→e=80∨e=100:=by
 intro l
 induction l with
 | nil=>intro s b e h;rw [runP] at h;cases h
 | cons t l ih =>
  intro s b e h;rw [runP] at h
  cases hs:zBU s b t with
  | error e' =>
   rw [hs] at h;injection h with h;subst h;exact zHo hs
  | ok s' =>
   rw [hs] at h;exact ih _ _ _ h
theorem zMf {l:List Tk} {v:List Nd} (h:zBO l=(v,0)):mayV v=true∧rawV v=true∧l.length≤512∧l.all mayT=true∧(zAn 12 v).1.length≤512∧v.length≤l.length:=by
 unfold zBO at h
 by_cases h1:512 < l.length
 · rw [if_pos h1] at h;cases h
 · rw [if_neg h1] at h
   by_cases h2:l.all mayT=true
   · rw [if_pos h2] at h
     obtain ⟨s,hs,rfl,hV,hO⟩:=zQH h (fun e he=>by rcases zGW _ _ _ _ he with rfl | rfl <;> decide);obtain ⟨b',hI⟩:=InvP.run l _ _ false 0 (.inr ⟨rfl,.inl rfl⟩) (fun t ht=>List.all_eq_true.1 h2 t ht) hs;rcases hI with ⟨gs,f,_,_,e,_⟩ | ⟨_,e | ⟨k1,k2,k3,k4⟩⟩
     · rw [hO] at e;simp at e
     · exact absurd e hV
     · have hc:=zFU 12 s.V [] k2
       have h0:cnt ([]:List Nd)=0:=rfl;have hl:s.V.length≤cnt s.V:=by unfold cnt;omega
       exact ⟨zAj.2 ⟨by omega,k1,k2⟩,k3,by omega,h2,by omega,by omega⟩
   · rw [if_neg h2] at h;cases h
theorem zHW {l:List Tk} {v:List Nd} {e:Int} (h:zBO l=(v,e)) (he:e≠0):v=[]∧(e=4∨e=8∨e=80∨e=100):=by
 unfold zBO at h
 by_cases h1:512 < l.length
 · rw [if_pos h1] at h
   obtain ⟨rfl,rfl⟩:=(Prod.mk.injEq _ _ _ _).mp h
   simp
 · rw [if_neg h1] at h
   by_cases h2:l.all mayT=true
   · rw [if_pos h2] at h
     cases hr:runP ⟨[],[]⟩ false l with
     | error e' =>
      rw [hr] at h;have h:(([]:List Nd),e')=(v,e):=h;obtain ⟨rfl,rfl⟩:=(Prod.mk.injEq _ _ _ _).mp h;rcases zGW _ _ _ _ hr with rfl | rfl <;> simp
     | ok s =>
      rw [hr] at h;have h:(if s.V=[]∨s.O≠[] then (([]:List Nd),(80:Int)) else (s.V,0))=(v,e):=h
      by_cases hc:s.V=[]∨s.O≠[]
      · rw [if_pos hc] at h
        obtain ⟨rfl,rfl⟩:=(Prod.mk.injEq _ _ _ _).mp h
        simp
      · rw [if_neg hc] at h
        exact absurd ((Prod.mk.injEq _ _ _ _).mp h).2.symm he
   · rw [if_neg h2] at h
     obtain ⟨rfl,rfl⟩:=(Prod.mk.injEq _ _ _ _).mp h
     simp
end Tr
namespace Ns
open Lx Tr Tx Nmb Es
def zAU (g:List Nd→(List Nd × Bool) × List Nd):Nat→List Nd→(List Nd × Bool) × List Nd
 | 0,l=>(([],true),l)
 | k+1,l=>(((g l).1.1++(zAU g k (g l).2).1.1,(g l).1.2&&(zAU g k (g l).2).1.2),(zAU g k (g l).2).2)
def zAH {ε:Type} (f:ε→Nd→Nd × Bool) (dn:ε→Nd→ε):Nat→ε→List Nd→(List Nd × Bool) × List Nd
 | _,_,[]=>(([],true),[])
 | 0,_,n::l=>(([n],true),l)
 | d+1,e,n::l=>if n.kind=2 then (([n],true),l) else
  (((f e n).1::(zAU (zAH f dn d (dn e n)) n.many.toNat l).1.1,(f e n).2&&(zAU (zAH f dn d (dn e n)) n.many.toNat l).1.2),(zAU (zAH f dn d (dn e n)) n.many.toNat l).2)
theorem zMV {s nm:List UInt8} {l:List At} {m:Int} (h1:zAO nm=true) (h2:okT s=true) (h3:zDt l=true):ndOk ⟨1,s,nm,l,[],m⟩=true:=by
 unfold ndOk;rw [if_pos rfl]
 simp [h1,h2,h3]
theorem zCE {l:List At}:zDt l=true↔(∀a∈l,zAO a.name=true∧okT a.value=true∧okT a.space=true)∧(l.map key).Nodup∧l.length≤16:=by
 unfold zDt;rw [Bool.and_eq_true,Bool.and_eq_true,decide_eq_true_eq,decide_eq_true_eq,List.all_eq_true,and_assoc];refine and_congr ⟨fun h a ha=>?_,fun h a ha=>?_⟩ Iff.rfl
 · have:=h a ha
   unfold atOk at this;rw [Bool.and_eq_true,Bool.and_eq_true] at this;exact ⟨this.1.1,this.1.2,this.2⟩
 · unfold atOk
   rw [(h a ha).1,(h a ha).2.1,(h a ha).2.2];rfl
section gen
variable {ε ι:Type} {f:ε→Nd→Nd × Bool} {dn:ε→Nd→ε} {f2:ι→Nd→Nd × Bool} {dn2:ι→Nd→ι}
theorem zED {d:Nat} (hd:∀l r e,zAD d l=some r→(zAH f dn d e l).2=r∧(zAH f dn d e l).1.1.length+r.length=l.length) (e:ε):∀(k:Nat) (b:Bool) (l:List Nd) (b':Bool) (r:List Nd),zAF (zAD d) k b l=some (b',r)→(zAU (zAH f dn d e) k l).2=r∧(zAU (zAH f dn d e) k l).1.1.length+r.length=l.length:=by
 intro k
 induction k with
 | zero =>
  intro b l b' r h;rw [zAF] at h;obtain ⟨rfl,rfl⟩:=(Prod.mk.injEq _ _ _ _).mp (Option.some.inj h);rw [zAU];exact ⟨rfl,by simp⟩
 | succ k ih =>
  intro b l b' r h
  cases l with
  | nil=>rw [zAF] at h;cases h
  | cons n l =>
   rw [zAF] at h
   by_cases hb:b=true∧n.kind=2
   · rw [if_pos hb] at h;cases h
   · rw [if_neg hb] at h
     cases hn:zAD d (n::l) with
     | none=>rw [hn] at h;cases h
     | some y =>
      rw [hn] at h;obtain ⟨h1,h2⟩:=hd _ _ e hn;obtain ⟨h3,h4⟩:=ih _ _ _ _ h;rw [zAU,h1];refine ⟨h3,?_⟩;show ((zAH f dn d e (n::l)).1.1++(zAU (zAH f dn d e) k y).1.1).length+r.length=_;rw [List.length_append]
      omega
theorem zAv:∀(d:Nat) (l r:List Nd) (e:ε),zAD d l=some r→(zAH f dn d e l).2=r∧(zAH f dn d e l).1.1.length+r.length=l.length:=by
 intro d
 induction d with
 | zero =>
  intro l r e h
  cases l with
  | nil=>rw [zAD] at h;cases h
  | cons n l =>
   rw [zAD] at h
   by_cases hn:ndOk n=true∧n.kind=2
   · rw [if_pos hn] at h
     injection h with h;subst h;rw [zAH];exact ⟨rfl,by simp;omega⟩
   · rw [if_neg hn] at h;cases h
 | succ d ih =>
  intro l r e h
  cases l with
  | nil=>rw [zAD] at h;cases h
  | cons n l =>
   rw [zAD] at h
   by_cases hn:ndOk n=true∧0≤n.many
   · rw [if_pos hn] at h
     cases hk:zAF (zAD d) n.many.toNat false l with
     | none=>rw [hk] at h;cases h
     | some y =>
      rw [hk] at h;obtain ⟨b',y⟩:=y;have h:y=r:=Option.some.inj h;subst h;rw [zAH]
      by_cases h2:n.kind=2
      · rw [if_pos h2]
        have hm:=(zA6 hn.1 h2).1;rw [hm] at hk;have hk:some (false,l)=some (b',y):=hk;obtain ⟨_,rfl⟩:=(Prod.mk.injEq _ _ _ _).mp (Option.some.inj hk);exact ⟨rfl,by simp;omega⟩
      · rw [if_neg h2]
        obtain ⟨h3,h4⟩:=zED ih (dn e n) _ _ _ _ _ hk;exact ⟨h3,by show ((f e n).1::(zAU (zAH f dn d (dn e n)) n.many.toNat l).1.1).length+y.length=_;rw [List.length_cons,List.length_cons];omega⟩
   · rw [if_neg hn] at h;cases h
structure zNu (f:ε→Nd→Nd × Bool) (dn:ε→Nd→ε) (P:ε→Prop) (Q W:Nd→Prop):Prop where
 one:∀e n,P e→Q n→ndOk n=true→n.kind=1→(f e n).2=true→ndOk (f e n).1=true∧(f e n).1.kind=1∧(f e n).1.many=n.many∧W (f e n).1∧P (dn e n)
 two:∀n,Q n→ndOk n=true→n.kind=2→W n
theorem zJK {P:ε→Prop} {Q W:Nd→Prop} {d:Nat} (hd:∀l r p e,zAD d l=some r→l=p++r→(∀n∈p,Q n)→P e→(zAH f dn d e l).1.2=true→(∀x,zAD d ((zAH f dn d e l).1.1++x)=some x)∧(∀m∈(zAH f dn d e l).1.1,W m)∧∃n l' m t,l=n::l'∧(zAH f dn d e l).1.1=m::t∧m.kind=n.kind) (e:ε) (hP:P e) :
 ∀(k:Nat) (b:Bool) (l:List Nd) (b':Bool) (r p:List Nd),zAF (zAD d) k b l=some (b',r)→l=p++r→(∀n∈p,Q n)→(zAU (zAH f dn d e) k l).1.2=true→(∀x,zAF (zAD d) k b ((zAU (zAH f dn d e) k l).1.1++x)=some (b',x))∧∀m∈(zAU (zAH f dn d e) k l).1.1,W m:=by
 intro k
 induction k with
 | zero =>
  intro b l b' r p h hp hQ hw;rw [zAF] at h;obtain ⟨rfl,rfl⟩:=(Prod.mk.injEq _ _ _ _).mp (Option.some.inj h);rw [zAU];exact ⟨fun x=>by rw [List.nil_append,zAF],fun m hm=>by cases hm⟩
 | succ k ih =>
  intro b l b' r p h hp hQ hw
  cases l with
  | nil=>rw [zAF] at h;cases h
  | cons n l =>
   rw [zAF] at h
   by_cases hb:b=true∧n.kind=2
   · rw [if_pos hb] at h;cases h
   · rw [if_neg hb] at h
     cases hn:zAD d (n::l) with
     | none=>rw [hn] at h;cases h
     | some y =>
      rw [hn] at h;obtain ⟨q,hq0,hq,_⟩:=zAZ d _ _ hn;obtain ⟨p2,hp2,_,_⟩:=zBB (zAZ d) _ _ _ _ _ h
      have hpq:p=q++p2:=by
       rw [hq,hp2,←List.append_assoc] at hp;exact (List.append_cancel_right hp).symm
      subst hpq;rw [zAU] at hw ⊢;have hw:((zAH f dn d e (n::l)).1.2&&(zAU (zAH f dn d e) k (zAH f dn d e (n::l)).2).1.2)=true:=hw;rw [Bool.and_eq_true,(zAv d _ _ e hn).1] at hw;obtain ⟨k1,k2,n',l',m,t,e1,e2,e3⟩:=hd _ _ q e hn hq (fun m hm=>hQ m (List.mem_append.2 (.inl hm))) hP hw.1;obtain ⟨j1,j2⟩:=ih _ _ _ _ p2 h hp2 (fun m hm=>hQ m (List.mem_append.2 (.inr hm))) hw.2;injection e1 with e1 _;subst e1;rw [(zAv d _ _ e hn).1];refine ⟨fun x=>?_,fun m hm=>?_⟩
      · have h1:=k1 ((zAU (zAH f dn d e) k y).1.1++x)
        show zAF (zAD d) (k+1) b ((zAH f dn d e (n::l)).1.1++(zAU (zAH f dn d e) k y).1.1++x)=_;rw [List.append_assoc];rw [e2] at h1 ⊢;rw [List.cons_append] at h1 ⊢;rw [zAF,e3,if_neg hb,h1];exact j1 x
      · rcases List.mem_append.1 hm with hm | hm
        · exact k2 m hm
        · exact j2 m hm
theorem zFV {P:ε→Prop} {Q W:Nd→Prop} (hs:zNu f dn P Q W):∀(d:Nat) (l r p:List Nd) (e:ε),zAD d l=some r→l=p++r→(∀n∈p,Q n)→P e→(zAH f dn d e l).1.2=true →
 (∀x,zAD d ((zAH f dn d e l).1.1++x)=some x)∧(∀m∈(zAH f dn d e l).1.1,W m)∧∃n l' m t,l=n::l'∧(zAH f dn d e l).1.1=m::t∧m.kind=n.kind:=by
 intro d
 induction d with
 | zero =>
  intro l r p e h hp hQ hP hw
  cases l with
  | nil=>rw [zAD] at h;cases h
  | cons n l =>
   rw [zAD] at h
   by_cases hn:ndOk n=true∧n.kind=2
   · rw [if_pos hn] at h
     injection h with h;subst h
     have hpn:n∈p:=by
      cases p with
      | nil=>have:=congrArg List.length hp;simp at this
      | cons a p=>injection hp with h1 _;rw [h1];exact List.mem_cons_self
     rw [zAH];refine ⟨fun x=>by rw [List.singleton_append,zAD,if_pos hn],fun m hm=>?_,n,l,n,[],rfl,rfl,rfl⟩;obtain rfl:=List.mem_singleton.1 hm;exact hs.two _ (hQ _ hpn) hn.1 hn.2
   · rw [if_neg hn] at h;cases h
 | succ d ih =>
  intro l r p e h hp hQ hP hw
  cases l with
  | nil=>rw [zAD] at h;cases h
  | cons n l =>
   rw [zAD] at h
   by_cases hn:ndOk n=true∧0≤n.many
   · rw [if_pos hn] at h
     cases hk:zAF (zAD d) n.many.toNat false l with
     | none=>rw [hk] at h;cases h
     | some y =>
      rw [hk] at h;obtain ⟨b',y⟩:=y;have h:y=r:=Option.some.inj h;subst h;obtain ⟨p2,hp2,_,_⟩:=zBB (zAZ d) _ _ _ _ _ hk
      have hpq:p=n::p2:=by
       rw [hp2,←List.cons_append] at hp;exact (List.append_cancel_right hp).symm
      subst hpq;have hQn:=hQ n List.mem_cons_self;rw [zAH] at hw ⊢
      by_cases h2:n.kind=2
      · rw [if_pos h2] at hw ⊢
        refine ⟨fun x=>?_,fun m hm=>?_,n,l,n,[],rfl,rfl,rfl⟩
        · rw [List.singleton_append,zAD,if_pos hn,(zA6 hn.1 h2).1]
          rfl
        · obtain rfl:=List.mem_singleton.1 hm
          exact hs.two _ hQn hn.1 h2
      · rw [if_neg h2] at hw ⊢
        have h1:n.kind=1:=(zBY hn.1).resolve_right h2;have hw:((f e n).2&&(zAU (zAH f dn d (dn e n)) n.many.toNat l).1.2)=true:=hw;rw [Bool.and_eq_true] at hw;obtain ⟨g1,g2,g3,g4,g5⟩:=hs.one e n hP hQn hn.1 h1 hw.1;obtain ⟨j1,j2⟩:=zJK ih (dn e n) g5 _ _ _ _ _ p2 hk hp2 (fun m hm=>hQ m (List.mem_cons_of_mem _ hm)) hw.2;refine ⟨fun x=>?_,fun m hm=>?_,n,l,_,_,rfl,rfl,by rw [g2,h1]⟩
        · show zAD (d+1) (((f e n).1::(zAU (zAH f dn d (dn e n)) n.many.toNat l).1.1)++x)=_
          rw [List.cons_append,zAD,g3,if_pos ⟨g1,hn.2⟩,j1]
          rfl
        · rcases List.mem_cons.1 hm with rfl | hm
          · exact g4
          · exact j2 m hm
   · rw [if_neg hn] at h;cases h
structure Undo (f:ε→Nd→Nd × Bool) (dn:ε→Nd→ε) (f2:ι→Nd→Nd × Bool) (dn2:ι→Nd→ι) (R:ε→ι→Prop) (Q:Nd→Prop):Prop where
 one:∀e i n,R e i→Q n→ndOk n=true→n.kind=1→(f e n).2=true→(f e n).1.kind=1∧(f e n).1.many=n.many∧f2 i (f e n).1=(n,true)∧R (dn e n) (dn2 i (f e n).1)
theorem zK7 {R:ε→ι→Prop} {Q:Nd→Prop} {d:Nat} (hd:∀l r p e i,zAD d l=some r→l=p++r→(∀n∈p,Q n)→R e i→(zAH f dn d e l).1.2=true→∀x,zAH f2 dn2 d i ((zAH f dn d e l).1.1++x)=((p,true),x)) (e:ε) (i:ι) (hR:R e i) :
 ∀(k:Nat) (b:Bool) (l:List Nd) (b':Bool) (r p:List Nd),zAF (zAD d) k b l=some (b',r)→l=p++r→(∀n∈p,Q n)→(zAU (zAH f dn d e) k l).1.2=true→∀x,zAU (zAH f2 dn2 d i) k ((zAU (zAH f dn d e) k l).1.1++x)=((p,true),x):=by
 intro k
 induction k with
 | zero =>
  intro b l b' r p h hp hQ hw x;rw [zAF] at h;obtain ⟨rfl,rfl⟩:=(Prod.mk.injEq _ _ _ _).mp (Option.some.inj h);have:p=[]:=by have:=congrArg List.length hp;rw [List.length_append] at this;exact List.eq_nil_of_length_eq_zero (by omega)
  subst this
  rfl
 | succ k ih =>
  intro b l b' r p h hp hQ hw x
  cases l with
  | nil=>rw [zAF] at h;cases h
  | cons n l =>
   rw [zAF] at h
   by_cases hb:b=true∧n.kind=2
   · rw [if_pos hb] at h;cases h
   · rw [if_neg hb] at h
     cases hn:zAD d (n::l) with
     | none=>rw [hn] at h;cases h
     | some y =>
      rw [hn] at h;obtain ⟨q,hq0,hq,_⟩:=zAZ d _ _ hn;obtain ⟨p2,hp2,_,_⟩:=zBB (zAZ d) _ _ _ _ _ h
      have hpq:p=q++p2:=by
       rw [hq,hp2,←List.append_assoc] at hp;exact (List.append_cancel_right hp).symm
      subst hpq;rw [zAU] at hw;have hw:((zAH f dn d e (n::l)).1.2&&(zAU (zAH f dn d e) k (zAH f dn d e (n::l)).2).1.2)=true:=hw;rw [Bool.and_eq_true,(zAv d _ _ e hn).1] at hw;have k1:=hd _ _ q e i hn hq (fun m hm=>hQ m (List.mem_append.2 (.inl hm))) hR hw.1;have j1:=ih _ _ _ _ p2 h hp2 (fun m hm=>hQ m (List.mem_append.2 (.inr hm))) hw.2 x;have e1:(zAU (zAH f dn d e) (k+1) (n::l)).1.1=(zAH f dn d e (n::l)).1.1++(zAU (zAH f dn d e) k y).1.1:=by rw [zAU,(zAv d _ _ e hn).1]
      rw [e1,List.append_assoc,zAU,k1,j1]
      rfl
theorem zK6 {R:ε→ι→Prop} {Q:Nd→Prop} (hu:Undo f dn f2 dn2 R Q):∀(d:Nat) (l r p:List Nd) (e:ε) (i:ι),zAD d l=some r→l=p++r→(∀n∈p,Q n)→R e i→(zAH f dn d e l).1.2=true→∀x,zAH f2 dn2 d i ((zAH f dn d e l).1.1++x)=((p,true),x):=by
 intro d
 induction d with
 | zero =>
  intro l r p e i h hp hQ hR hw x
  cases l with
  | nil=>rw [zAD] at h;cases h
  | cons n l =>
   rw [zAD] at h
   by_cases hn:ndOk n=true∧n.kind=2
   · rw [if_pos hn] at h
     injection h with h;subst h
     have hpn:p=[n]:=by
      rw [←List.singleton_append] at hp;exact (List.append_cancel_right hp).symm
     subst hpn;rw [zAH,List.singleton_append,zAH]
   · rw [if_neg hn] at h;cases h
 | succ d ih =>
  intro l r p e i h hp hQ hR hw x
  cases l with
  | nil=>rw [zAD] at h;cases h
  | cons n l =>
   rw [zAD] at h
   by_cases hn:ndOk n=true∧0≤n.many
   · rw [if_pos hn] at h
     cases hk:zAF (zAD d) n.many.toNat false l with
     | none=>rw [hk] at h;cases h
     | some y =>
      rw [hk] at h;obtain ⟨b',y⟩:=y;have h:y=r:=Option.some.inj h;subst h;obtain ⟨p2,hp2,_,_⟩:=zBB (zAZ d) _ _ _ _ _ hk
      have hpq:p=n::p2:=by
       rw [hp2,←List.cons_append] at hp;exact (List.append_cancel_right hp).symm
      subst hpq;have hQn:=hQ n List.mem_cons_self;rw [zAH] at hw ⊢
      by_cases h2:n.kind=2
      · rw [if_pos h2,List.singleton_append,zAH,if_pos h2]
        rw [(zA6 hn.1 h2).1] at hk;have hk:some (false,l)=some (b',y):=hk;obtain ⟨_,rfl⟩:=(Prod.mk.injEq _ _ _ _).mp (Option.some.inj hk);have:p2=[]:=by have:=congrArg List.length hp2;rw [List.length_append] at this;exact List.eq_nil_of_length_eq_zero (by omega)
        rw [this]
      · rw [if_neg h2] at hw ⊢
        have h1:n.kind=1:=(zBY hn.1).resolve_right h2;have hw:((f e n).2&&(zAU (zAH f dn d (dn e n)) n.many.toNat l).1.2)=true:=hw;rw [Bool.and_eq_true] at hw;obtain ⟨g1,g2,g3,g4⟩:=hu.one e i n hR hQn hn.1 h1 hw.1;have j1:=zK7 ih (dn e n) (dn2 i (f e n).1) g4 _ _ _ _ _ p2 hk hp2 (fun m hm=>hQ m (List.mem_cons_of_mem _ hm)) hw.2 x;show zAH f2 dn2 (d+1) i (((f e n).1::(zAU (zAH f dn d (dn e n)) n.many.toNat l).1.1)++x)=_;rw [List.cons_append,zAH,if_neg (by rw [g1];decide),g2,j1,g3]
        rfl
   · rw [if_neg hn] at h;cases h
end gen
end Ns
end Go.Proofs.YtlgppednjkbgiaaGreatDoor
