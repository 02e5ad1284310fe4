/-
  Texts of one seat, put together: LexO, LexP, TreM, TreP, TreQ, SpaM.
-/
import Derived.Test.YtlgppednjkbgiaaGreatDoorMbA
import Derived.Test.YtlgppednjkbgiaaGreatDoorMb00
set_option maxRecDepth 100000
set_option maxHeartbeats 16000000
set_option linter.unusedVariables false
namespace Go.Proofs.YtlgppednjkbgiaaGreatDoor
open Go.RowKit Go.Proofs.Tryz
namespace Lx
open Tx Nmb Es
def okT (l:List UInt8):Bool:=decide (l.length≤16384)&&isP l
def zB5:List Pr→List Pr→Bool
 | _,[]=>true
 | acc,p::r=>zAP p.name&& !hasL acc p.name&&okT p.value&&zB5 (acc++[p]) r
def zBb (l:List Pr):Bool:=zB5 [] l&&decide (l.length≤16)
def mayT (t:Tk):Bool :=
 if t.kind=1∨t.kind=3 then zAP t.name&&zBb t.attrs&&t.text.isEmpty
 else if t.kind=2 then zAP t.name&&t.attrs.isEmpty&&t.text.isEmpty
 else if t.kind=4 then t.name.isEmpty&&t.attrs.isEmpty&& !t.text.isEmpty&&okT t.text else false
def zBU (p:Pr):List UInt8:=32::(p.name++61::34::(escL true p.value++[34]))
def zAO (t:Tk):List UInt8 :=
 if t.kind=4 then escL false t.text else if t.kind=2 then 60::47::(t.name++[62])
 else 60::(t.name++(t.attrs.flatMap zBU++(if t.kind=3 then [47,62] else [62])))
def zBx:List Tk→Bool
 | []=>true
 | [_]=>true
 | a::b::r=> !(decide (a.kind=4)&&decide (b.kind=4))&&zBx (b::r)
theorem zJD (p:Pr) (hf:zAP p.name=true) (r:List UInt8):zB2 (p.name++61::34::(escL true p.value++34::r))=some (p,r):=by
 refine (zCv _ _ _).2 ⟨[],[],34::(escL true p.value++34::r),by simp,hf,by simp,by simp,(zDq _ _ _).2 ⟨34,escL true p.value,rfl,.inl rfl,fun h=>?_,zLb _⟩⟩;exact ((zJL true p.value 34 h).2.2.2 rfl).1 rfl
theorem zKf:∀(l acc:List Pr) (b:Bool) (r:List UInt8),zB5 acc l=true→TagI acc (l.flatMap zBU++((if b then [47,62] else [62])++r)) b (acc++l) r:=by
 intro l
 induction l with
 | nil =>
  intro acc b r _;rw [List.append_nil]
  cases b
  · exact .shut acc [] r (by simp)
  · exact .bare acc [] r (by simp)
 | cons p l ih =>
  intro acc b r h;unfold zB5 at h;simp only [Bool.and_eq_true,Bool.not_eq_true'] at h;obtain ⟨⟨⟨h1,h2⟩,h3⟩,h4⟩:=h
  have e:(p::l).flatMap zBU++((if b then [47,62] else [62])++r)=[32]++(p.name++61::34::(escL true p.value++34::(l.flatMap zBU++((if b then [47,62] else [62])++r)))):=by
   rw [List.flatMap_cons]
   simp [zBU]
  rw [e];have:=ih (acc++[p]) b r h4;rw [List.append_assoc,List.singleton_append] at this;exact .attr acc [32] _ _ p b _ r (by decide) (by simp) (zJD p h1 _) h2 this
theorem zBT {t:Tk} (h:mayT t=true):(∃b:Bool,t.kind=(if b then 3 else 1)∧zAP t.name=true∧zBb t.attrs=true∧t.text=[])∨(t.kind=2∧zAP t.name=true∧t.attrs=[]∧t.text=[])∨(t.kind=4∧t.name=[]∧t.attrs=[]∧t.text≠[]∧okT t.text=true):=by
 unfold mayT at h
 by_cases h1:t.kind=1∨t.kind=3
 · rw [if_pos h1] at h
   simp only [Bool.and_eq_true,List.isEmpty_iff] at h;rcases h1 with h1 | h1
   · exact .inl ⟨false,h1,h.1.1,h.1.2,h.2⟩
   · exact .inl ⟨true,h1,h.1.1,h.1.2,h.2⟩
 · rw [if_neg h1] at h
   by_cases h2:t.kind=2
   · rw [if_pos h2] at h
     simp only [Bool.and_eq_true,List.isEmpty_iff] at h;exact .inr (.inl ⟨h2,h.1.1,h.1.2,h.2⟩)
   · rw [if_neg h2] at h
     by_cases h4:t.kind=4
     · rw [if_pos h4] at h
       simp only [Bool.and_eq_true,List.isEmpty_iff,Bool.not_eq_true',List.isEmpty_eq_false_iff] at h;exact .inr (.inr ⟨h4,h.1.1.1,h.1.1.2,h.1.2,h.2⟩)
     · rw [if_neg h4] at h;cases h
theorem zF6 (l r:List UInt8) (t:Tk):oneL (60::l)=some (t,r)↔tagL l=some (t,r):=by
 unfold oneL;dsimp only;rw [if_pos rfl]
theorem zLD {t:Tk} (h:mayT t=true) (h4:t.kind≠4) (r:List UInt8):oneL (zAO t++r)=some (t,r):=by
 unfold zAO;rw [if_neg h4];rcases zBT h with ⟨b,h1,h2,h3,h5⟩ | ⟨h1,h2,h3,h5⟩ | ⟨h1,_⟩
 · have hk:t.kind≠2:=by rw [h1];cases b <;> decide
   rw [if_neg hk];have ha:zB5 [] t.attrs=true:=by unfold zBb at h3;rw [Bool.and_eq_true] at h3;exact h3.1
   have e:(if t.kind=3 then [47,62] else [62]:List UInt8)=if b then [47,62] else [62]:=by rw [h1];cases b <;> rfl
   have ht:=zKf t.attrs [] b r ha;rw [e,List.cons_append,List.append_assoc,List.append_assoc];refine (zF6 _ _ _).2 ((zC3 _ _ _).2 (.inr ⟨b,_,rfl,h2,ht,?_⟩))
   cases t
   simp only at h1 h5;subst h1 h5
   rfl
 · rw [if_pos h1]
   refine (zF6 _ _ _).2 ((zC3 _ _ _).2 (.inl ⟨[],by simp,h2,by simp,?_⟩))
   cases t
   simp only at h1 h3 h5;subst h1 h3 h5
   rfl
 · exact absurd h1 h4
theorem zIa (c:UInt8):txt c=true↔c≠60:=by unfold txt;simp
theorem zNl {t:Tk} (h:mayT t=true) (h4:t.kind=4) (r:List UInt8) (hr:∀c s,r=c::s→c=60):oneL (zAO t++r)=some (t,r):=by
 unfold zAO;rw [if_pos h4];rcases zBT h with ⟨b,h1,_⟩ | ⟨h1,_⟩ | ⟨_,h1,h2,h3,h5⟩
 · rw [h4] at h1;cases b <;> cases h1
 · rw [h4] at h1;cases h1
 · have hl:=(zCn false t.text).1
   have hok:=zJL false t.text;have hsp:=zDs (p:=txt) (a:=escL false t.text) (b:=r) (fun c hc=>(zIa c).2 (hok c hc).1) (fun c s e=>by rw [hr c s e];rfl)
   cases he:escL false t.text with
   | nil =>
    rw [he] at hl;exact absurd (List.eq_nil_of_length_eq_zero (Nat.le_zero.1 hl)) h3
   | cons c s =>
    have hc:c≠60:=(hok c (by rw [he];simp)).1;rw [he] at hsp;rw [List.cons_append] at hsp ⊢;show (if c=60 then _ else _)=_;rw [if_neg hc,hsp.1,hsp.2,←he,zPN];show some ((⟨4,[],[],t.text⟩:Tk),r)=_
    cases t
    simp only at h4 h1 h2;subst h4 h1 h2
    rfl
theorem zCu {l r:List UInt8} {t:Tk} (h:oneL l=some (t,r)):(t.kind≠4∧∃s,l=60::s∧tagL s=some (t,r)) ∨
 (t.kind=4∧l.head?≠some 60∧∃a x,l=a++r∧a≠[]∧(∀c∈a,c≠60)∧rd a=some x∧t=⟨4,[],[],x⟩∧∀c s,r=c::s→c=60):=by
 cases l with
 | nil=>cases h
 | cons c s =>
  by_cases hc:c=60
  · subst hc
    have ht:=(zF6 _ _ _).1 h
    left
    refine ⟨?_,s,rfl,ht⟩;rcases (zC3 _ _ _).1 ht with ⟨g,_,_,_,e⟩ | ⟨b,y,_,_,_,e⟩
    · rw [e];simp
    · rw [e];cases b <;> simp
  · right
    unfold oneL at h;dsimp only at h;rw [if_neg hc] at h
    cases hr:rd ((c::s).takeWhile txt) with
    | none=>rw [hr] at h;cases h
    | some x =>
     rw [hr] at h;obtain ⟨rfl,rfl⟩:=(Prod.mk.injEq _ _ _ _).mp (Option.some.inj h);obtain ⟨e1,e2,e3⟩:=zAU txt (c::s);refine ⟨rfl,by simpa using hc,_,x,e1,?_,fun d hd=>(zIa d).1 (e2 d hd),hr,rfl,fun d q e=>?_⟩
     · have:txt c=true:=(zIa c).2 hc
       rw [List.takeWhile_cons,this]
       simp
     · have:=e3 d q e
       unfold txt at this
       simpa using this
inductive LexI:List Tk→List UInt8→Prop
 | nil:LexI [] []
 | cons (t:Tk) (ts:List Tk) (l r:List UInt8):oneL l=some (t,r)→LexI ts r→LexI (t::ts) l
theorem LexI.first {t:Tk} {a:List Tk} {l:List UInt8} (h:LexI (t::a) l) (ht:t.kind≠4):∀c s,l=c::s→c=60:=by
 intro c s e
 cases h with
 | cons _ _ _ r h1 h2 =>
  rcases zCu h1 with ⟨_,q,e2,_⟩ | ⟨h3,_⟩
  · rw [e2] at e
    exact (List.cons.inj e).1.symm
  · exact absurd h3 ht
theorem zKj {t:Tk} {l:List Tk} (h:zBx (t::l)=true):zBx l=true:=by
 cases l with
 | nil=>rfl
 | cons b r=>unfold zBx at h;rw [Bool.and_eq_true] at h;exact h.2
theorem zK4:∀(l:List Tk),(∀t∈l,mayT t=true)→zBx l=true→LexI l (l.flatMap zAO):=by
 intro l
 induction l with
 | nil=>intro _ _;exact .nil
 | cons t l ih =>
  intro hm ha;have i:=ih (fun x hx=>hm x (by simp [hx])) (zKj ha);rw [List.flatMap_cons];refine .cons t l _ (l.flatMap zAO) ?_ i
  by_cases h4:t.kind=4
  · refine zNl (hm t (by simp)) h4 _ fun c s e=>?_
    cases l with
    | nil=>cases e
    | cons b r =>
     unfold zBx at ha;rw [Bool.and_eq_true] at ha;refine i.first (fun hb=>?_) c s e;rw [h4,hb] at ha;exact absurd ha.1 (by decide)
  · exact zLD (hm t (by simp)) h4 _
theorem zMR (l:List UInt8) (h:∀c∈l,c.toNat < 128∧may (c.toNat:Int)=true):isP l=true:=by
 induction l with
 | nil=>rfl
 | cons c l ih=>exact zBL (zJP (h c (by simp)).1 (h c (by simp)).2) (ih fun x hx=>h x (by simp [hx]))
theorem zQj {n:Nat} (h:32≤n) (h2:n < 128):may (n:Int)=true:=by unfold may;rw [if_neg (by omega)];simp;omega
theorem zD8 {l:List UInt8} (h:zAP l=true):isP l=true:=zMR l fun c hc=>by
 obtain ⟨_,_,_,_,_,_,_,h1,h2⟩:=zJH (zCI h c hc);exact ⟨h1,zQj (by omega) h1⟩
theorem zJj {l:List UInt8} (h:okT l=true):isP l=true:=by unfold okT at h;rw [Bool.and_eq_true] at h;exact h.2
theorem zIo:∀(l acc:List Pr),zB5 acc l=true→isP (l.flatMap zBU)=true:=by
 intro l
 induction l with
 | nil=>intro _ _;rfl
 | cons p l ih =>
  intro acc h;unfold zB5 at h;simp only [Bool.and_eq_true] at h;rw [List.flatMap_cons];refine zBL ?_ (ih _ h.2);unfold zBU;have e:(32::(p.name++61::34::(escL true p.value++[34])):List UInt8)=[32]++(p.name++([61,34]++(escL true p.value++[34]))):=by simp
  rw [e];exact zBL (by decide +kernel) (zBL (zD8 h.1.1.1) (zBL (by decide +kernel) (zBL (zND true _ (zJj h.1.2)) (by decide +kernel))))
theorem zIc {t:Tk} (h:mayT t=true):isP (zAO t)=true:=by
 unfold zAO;rcases zBT h with ⟨b,h1,h2,h3,h5⟩ | ⟨h1,h2,h3,h5⟩ | ⟨h1,_,_,_,h5⟩
 · have hk:t.kind≠4:=by rw [h1];cases b <;> decide
   have hk2:t.kind≠2:=by rw [h1];cases b <;> decide
   have ha:zB5 [] t.attrs=true:=by unfold zBb at h3;rw [Bool.and_eq_true] at h3;exact h3.1
   rw [if_neg hk,if_neg hk2];show isP ([60]++_)=true;refine zBL (by decide +kernel) (zBL (zD8 h2) (zBL (zIo _ _ ha) ?_))
   split <;> decide +kernel
 · rw [if_neg (by rw [h1];decide),if_pos h1]
   show isP ([60,47]++(t.name++[62]))=true;exact zBL (by decide +kernel) (zBL (zD8 h2) (by decide +kernel))
 · rw [if_pos h1]
   exact zND false _ (zJj h5)
theorem zKy (l:List Tk) (h:∀t∈l,mayT t=true):isP (l.flatMap zAO)=true:=by
 induction l with
 | nil=>rfl
 | cons t l ih =>
  rw [List.flatMap_cons];exact zBL (zIc (h t (by simp))) (ih fun x hx=>h x (by simp [hx]))
theorem zAt {g l:List UInt8} (h:isP (g++l)=true) (hg:∀c∈g,c.toNat < 128):isP l=true:=by
 induction g with
 | nil=>exact h
 | cons c g ih=>exact ih (zA2 (a:=[]) (b:=g++l) (c:=c) h (hg c (by simp))).2.1 (fun x hx=>hg x (by simp [hx]))
theorem zDR {c:UInt8} (h:blk c=true):c.toNat < 128:=(zCh h).2.2.2.2.2.2.2
theorem zF9 {c:UInt8} (h:wch c=true):c.toNat < 128:=(zJH h).2.2.2.2.2.2.2.1
theorem zKt {q:UInt8} (h:q=34∨q=39):q.toNat < 128:=by rcases h with rfl | rfl <;> decide
theorem zFq {l r:List UInt8} {p:Pr} (h:zB2 l=some (p,r)) (hp:isP l=true) (hl:l.length≤16384):zAP p.name=true∧okT p.value=true∧isP r=true∧(zBU p).length+6*r.length≤6*l.length+5:=by
 obtain ⟨g1,g2,x,rfl,h1,h2,h3,h4⟩:=(zCv _ _ _).1 h;obtain ⟨q,raw,rfl,h5,h6,h7⟩:=(zDq _ _ _).1 h4;have k1:=zAt hp (fun c hc=>zF9 (zCI h1 c hc));have k2:=zAt k1 (fun c hc=>zDR (h2 c hc));have k3:=(zA2 (a:=[]) (c:=61) k2 (by decide)).2.1;have k4:=zAt k3 (fun c hc=>zDR (h3 c hc));have k5:=(zA2 (a:=[]) (c:=q) k4 (zKt h5)).2.1;obtain ⟨k6,k7,_⟩:=zA2 k5 (zKt h5);obtain ⟨k8,k9⟩:=zKv k6 h7;have hel:=(zCn true p.value).2;simp only [List.length_append,List.length_cons] at hl;refine ⟨h1,by unfold okT;rw [k8,Bool.and_true,decide_eq_true_eq];omega,k7,?_⟩;unfold zBU;simp only [List.length_append,List.length_cons,List.length_nil]
 omega
theorem TagI.text {acc:List Pr} {l:List UInt8} {b:Bool} {at1:List Pr} {x:List UInt8} (h:TagI acc l b at1 x) (hp:isP l=true) (hl:l.length≤16384):∃more,at1=acc++more∧zB5 acc more=true∧isP x=true∧(more.flatMap zBU).length+(if b then 2 else 1)+6*x.length≤6*l.length:=by
 induction h with
 | shut acc g x hg =>
  have:=zAt hp (fun c hc=>zDR (hg c hc));exact ⟨[],by simp,rfl,(zA2 (a:=[]) (c:=62) this (by decide)).2.1,by simp;omega⟩
 | bare acc g x hg =>
  have:=zAt hp (fun c hc=>zDR (hg c hc));have:=(zA2 (a:=[]) (c:=47) this (by decide)).2.1;exact ⟨[],by simp,rfl,(zA2 (a:=[]) (c:=62) this (by decide)).2.1,by simp;omega⟩
 | attr acc g l y p b at1 x hg hn ha hh _ ih =>
  have k1:=zAt hp (fun c hc=>zDR (hg c hc));rw [List.length_append] at hl;obtain ⟨k2,k3,k4,k5⟩:=zFq ha k1 (by omega);have hy:=zB0 ha;obtain ⟨more,e1,e2,e3,e4⟩:=ih k4 (by omega);refine ⟨p::more,by rw [e1];simp,?_,e3,?_⟩
  · unfold zB5
    rw [k2,hh,k3,e2]
    rfl
  · rw [List.flatMap_cons,List.length_append,List.length_append]
    have:1≤g.length:=List.length_pos_iff.2 hn
    omega
def mayL (t:Tk):Prop:=t.attrs.length≤16→mayT t=true
theorem zO8 {b:Bool} {name:List UInt8} {at1:List Pr} (h1:zAP name=true) (h2:zB5 [] at1=true):mayL ⟨if b then 3 else 1,name,at1,[]⟩:=by
 intro hl;unfold mayT;dsimp only at hl ⊢;rw [if_pos (by cases b <;> simp)];unfold zBb;rw [h1,h2]
 simp [hl]
theorem zFd {l r:List UInt8} {t:Tk} (h:oneL l=some (t,r)) (hp:isP l=true) (hl:l.length≤16384):mayL t∧isP r=true∧(zAO t).length+6*r.length≤6*l.length:=by
 rcases zCu h with ⟨h1,s,rfl,ht⟩ | ⟨h1,h2,a,x,rfl,h3,h4,h5,rfl,h6⟩
 · have k0:=(zA2 (a:=[]) (c:=60) hp (by decide)).2.1
   rw [List.length_cons] at hl;rcases (zC3 _ _ _).1 ht with ⟨g,rfl,k1,k2,k3⟩ | ⟨b,y,rfl,k1,k2,k3⟩
   · have q1:=(zA2 (a:=[]) (c:=47) k0 (by decide)).2.1
     have q2:=zAt q1 (fun c hc=>zF9 (zCI k1 c hc));have q3:=zAt q2 (fun c hc=>zDR (k2 c hc));have q4:=(zA2 (a:=[]) (c:=62) q3 (by decide)).2.1;refine ⟨fun _=>?_,q4,?_⟩
     · rw [k3]
       unfold mayT
       simp [k1]
     · rw [k3]
       unfold zAO;simp only [List.length_append,List.length_cons];rw [if_neg (by decide),if_pos trivial];simp only [List.length_append,List.length_cons,List.length_nil]
       omega
   · have q2:=zAt k0 (fun c hc=>zF9 (zCI k1 c hc))
     rw [List.length_append] at hl;obtain ⟨more,e1,e2,e3,e4⟩:=k2.text q2 (by omega);rw [List.nil_append] at e1;rw [k3];refine ⟨zO8 k1 (by rw [e1];exact e2),e3,?_⟩;unfold zAO;rw [e1];dsimp only;rw [if_neg (by cases b <;> simp),if_neg (by cases b <;> simp)];simp only [List.length_append,List.length_cons]
     cases b
     · rw [if_neg (by simp)]
       simp only [List.length_cons,List.length_nil,Bool.false_eq_true,if_false] at e4 ⊢
       omega
     · rw [if_pos (by simp)]
       simp only [List.length_cons,List.length_nil,if_true] at e4 ⊢
       omega
 · have ha:isP a=true∧isP r=true:=by
    cases r with
    | nil=>rw [List.append_nil] at hp;exact ⟨hp,rfl⟩
    | cons c s =>
     obtain rfl:=h6 c s rfl;obtain ⟨q1,q2,q3⟩:=zA2 hp (by decide);exact ⟨q1,zBL (a:=[60]) (by decide +kernel) q2⟩
   have hx:=zMq _ _ _ (Nat.le_refl _) ha.1 h5;obtain ⟨hx2,hx3⟩:=zPZ _ _ _ (Nat.le_refl _) h5;rw [List.length_append] at hl;have hel:=(zCn false x).2;refine ⟨fun _=>?_,ha.2,?_⟩
   · unfold mayT
     have:x≠[]:=hx3 h3;have h16:x.length≤16384:=by omega
     simp [okT,hx,this,h16]
   · unfold zAO
     rw [if_pos rfl,List.length_append];dsimp only
     omega
theorem LexI.text {a:List Tk} {l:List UInt8} (h:LexI a l) (hp:isP l=true) (hl:l.length≤16384):(∀t∈a,mayL t)∧zBx a=true∧(a.flatMap zAO).length≤6*l.length:=by
 induction h with
 | nil=>exact ⟨fun t h=>(by cases h),rfl,Nat.le_refl _⟩
 | cons t ts l r h1 h2 ih =>
  obtain ⟨k1,k2,k3⟩:=zFd h1 hp hl;have:=zDA h1;obtain ⟨i1,i2,i3⟩:=ih k2 (by omega);refine ⟨fun x hx=>?_,?_,?_⟩
  · rcases List.mem_cons.1 hx with rfl | hx
    · exact k1
    · exact i1 x hx
  · cases ts with
    | nil=>rfl
    | cons u ts =>
     unfold zBx;rw [i2,Bool.and_true];rcases zCu h1 with ⟨q1,_⟩ | ⟨q1,_,a,x,_,_,_,_,_,q6⟩
     · simp [q1]
     · cases h2 with
       | cons _ _ _ r2 h3 h4 =>
        rcases zCu h3 with ⟨p1,_⟩ | ⟨_,p2,b,x2,rfl,p3,p4,_⟩
        · simp [p1]
        · exfalso
          cases b with
          | nil=>exact p3 rfl
          | cons c s=>exact p4 c (by simp) (q6 c (s++r2) rfl)
  · rw [List.flatMap_cons,List.length_append]
    omega
def lexE:Nat→Nat→List UInt8→Except (Int × Nat) (List Tk)
 | _,_,[]=>.ok []
 | 0,_,_::_=>.ok []
 | f+1,n,c::l=>match oneL (c::l) with
  | none=>.error (if n=512 then 4 else 80,l.length+1)
  | some (t,r)=>if n=512∨16 < t.attrs.length then .error (4,l.length+1) else (lexE f (n+1) r).map (t::·)
theorem zMI:∀(f n:Nat) (l:List UInt8) (ts:List Tk),l.length≤f→n≤512→(lexE f n l=.ok ts↔LexI ts l∧n+ts.length≤512∧∀t∈ts,t.attrs.length≤16):=by
 intro f
 induction f with
 | zero =>
  intro n l ts hl hn;obtain rfl:=List.eq_nil_of_length_eq_zero (Nat.le_zero.1 hl)
  constructor
  · intro h
    obtain rfl:[]=ts:=Except.ok.inj h;exact ⟨.nil,hn,fun t h=>by cases h⟩
  · rintro ⟨h,_⟩
    cases h with
    | nil=>rfl
    | cons t ts l r h1 h2=>cases h1
 | succ f ih =>
  intro n l ts hl hn
  cases l with
  | nil =>
   constructor
   · intro h
     obtain rfl:[]=ts:=Except.ok.inj h;exact ⟨.nil,hn,fun t h=>by cases h⟩
   · rintro ⟨h,_⟩
     cases h with
     | nil=>rfl
     | cons t ts l r h1 h2=>cases h1
  | cons c l =>
   show (match oneL (c::l) with | none=>_ | some (t,r)=>_)=_↔_
   cases ho:oneL (c::l) with
   | none =>
    constructor
    · intro h;cases h
    · rintro ⟨h,_⟩
      cases h with
      | cons t ts _ r h1 h2=>rw [ho] at h1;cases h1
   | some q =>
    obtain ⟨t,r⟩:=q;have hrl:=zDA ho;dsimp only
    by_cases hc:n=512∨16 < t.attrs.length
    · rw [if_pos hc]
      constructor
      · intro h;cases h
      · rintro ⟨h,h2,h3⟩
        cases h with
        | cons t' ts _ r' h1 h4 =>
         rw [ho] at h1;obtain ⟨rfl,rfl⟩:=(Prod.mk.injEq _ _ _ _).mp (Option.some.inj h1);rw [List.length_cons] at h2;have:=h3 t (by simp)
         omega
    · rw [if_neg hc]
      have hn2:n+1≤512:=by omega
      rw [List.length_cons] at hl hrl
      constructor
      · intro h
        cases he:lexE f (n+1) r with
        | error e=>rw [he] at h;cases h
        | ok ts' =>
         rw [he] at h;obtain rfl:t::ts'=ts:=Except.ok.inj h;obtain ⟨k1,k2,k3⟩:=(ih (n+1) r ts' (by omega) hn2).1 he;refine ⟨.cons t ts' _ r ho k1,by rw [List.length_cons];omega,fun x hx=>?_⟩;rcases List.mem_cons.1 hx with rfl | hx
         · omega
         · exact k3 x hx
      · rintro ⟨h,h2,h3⟩
        cases h with
        | cons t' ts _ r' h1 h4 =>
         rw [ho] at h1;obtain ⟨rfl,rfl⟩:=(Prod.mk.injEq _ _ _ _).mp (Option.some.inj h1);rw [List.length_cons] at h2;rw [(ih (n+1) r ts (by omega) hn2).2 ⟨h4,by omega,fun x hx=>h3 x (by simp [hx])⟩]
         rfl
theorem zKC:∀(f n:Nat) (l:List UInt8) (e:Int) (k:Nat),l.length≤f→n≤512→lexE f n l=.error (e,k)→(e=4∨e=80)∧0 < k∧k≤l.length:=by
 intro f
 induction f with
 | zero =>
  intro n l e k hl hn h;obtain rfl:=List.eq_nil_of_length_eq_zero (Nat.le_zero.1 hl)
  cases h
 | succ f ih =>
  intro n l e k hl hn h
  cases l with
  | nil=>cases h
  | cons c l =>
   have h':(match oneL (c::l) with
    | none=>Except.error (if n=512 then (4:Int) else 80,l.length+1)
    | some (t,r)=>if n=512∨16 < t.attrs.length then .error (4,l.length+1) else (lexE f (n+1) r).map (t::·))=Except.error (e,k):=h
   cases ho:oneL (c::l) with
   | none =>
    rw [ho] at h';dsimp only at h';obtain ⟨rfl,rfl⟩:=(Prod.mk.injEq _ _ _ _).mp (Except.error.inj h');refine ⟨?_,by omega,by rw [List.length_cons];omega⟩
    split
    · exact .inl rfl
    · exact .inr rfl
   | some q =>
    obtain ⟨t,r⟩:=q;rw [ho] at h';dsimp only at h';have hrl:=zDA ho;rw [List.length_cons] at hl hrl
    by_cases hc:n=512∨16 < t.attrs.length
    · rw [if_pos hc] at h'
      obtain ⟨rfl,rfl⟩:=(Prod.mk.injEq _ _ _ _).mp (Except.error.inj h');exact ⟨.inl rfl,by omega,by rw [List.length_cons];omega⟩
    · rw [if_neg hc] at h'
      cases he:lexE f (n+1) r with
      | error p =>
       obtain ⟨e',k'⟩:=p;rw [he] at h';obtain ⟨rfl,rfl⟩:=(Prod.mk.injEq _ _ _ _).mp (Except.error.inj h');obtain ⟨q1,q2,q3⟩:=ih (n+1) r e' k' (by omega) (by omega) he;exact ⟨q1,q2,by rw [List.length_cons];omega⟩
      | ok ts=>rw [he] at h';cases h'
def lexR (l:List UInt8):List Tk × Int × Int :=
 if 16384 < l.length then ([],0,4) else if isP l then (match lexE l.length 0 l with | .ok ts=>(ts,0,0) | .error (e,k)=>([],(l.length:Int) - k,e)) else ([],0,50)
def zDH (l:List Tk):List UInt8 × Int :=
 if l.all mayT=true∧zBx l=true then (if 512 < l.length∨16384 < (l.flatMap zAO).length then ([],4) else (l.flatMap zAO,0)) else ([],8)
theorem zPu {l:List UInt8} {ts:List Tk} {n:Int} (h:lexR l=(ts,n,0)):n=0∧LexI ts l∧isP l=true∧l.length≤16384∧ts.length≤512∧∀t∈ts,t.attrs.length≤16:=by
 unfold lexR at h
 by_cases h1:16384 < l.length
 · rw [if_pos h1] at h;cases h
 · rw [if_neg h1] at h
   by_cases h2:isP l=true
   · rw [if_pos h2] at h
     cases he:lexE l.length 0 l with
     | ok a =>
      rw [he] at h;obtain ⟨rfl,rfl⟩:a=ts∧0=n:=by simpa using h
      obtain ⟨k1,k2,k3⟩:=(zMI _ _ _ _ (Nat.le_refl _) (by omega)).1 he;exact ⟨rfl,k1,h2,by omega,by omega,k3⟩
     | error p =>
      obtain ⟨e,k⟩:=p;rw [he] at h;obtain ⟨q,_⟩:=zKC _ _ _ _ _ (Nat.le_refl _) (by omega) he;have:e=0:=by simp at h;exact h.2.2
      omega
   · rw [if_neg h2] at h;cases h
theorem zP6 {l:List UInt8} {ts:List Tk} (h1:LexI ts l) (h2:isP l=true) (h3:l.length≤16384) (h4:ts.length≤512) (h5:∀t∈ts,t.attrs.length≤16):lexR l=(ts,0,0):=by
 unfold lexR;rw [if_neg (by omega),if_pos h2,(zMI _ _ _ _ (Nat.le_refl _) (by omega)).2 ⟨h1,by omega,h5⟩]
theorem zOw {l:List UInt8} {ts:List Tk} {n e:Int} (h:lexR l=(ts,n,e)) (he:e≠0):ts=[]∧(e=4∨e=50∨e=80)∧0≤n∧n≤l.length∧(e=80→n < l.length):=by
 unfold lexR at h
 by_cases h1:16384 < l.length
 · rw [if_pos h1] at h
   obtain ⟨rfl,rfl,rfl⟩:[]=ts∧0=n∧4=e:=by simpa using h
   exact ⟨rfl,.inl rfl,by omega,by omega,by omega⟩
 · rw [if_neg h1] at h
   by_cases h2:isP l=true
   · rw [if_pos h2] at h
     cases hx:lexE l.length 0 l with
     | ok a =>
      rw [hx] at h;obtain ⟨_,_,rfl⟩:a=ts∧0=n∧0=e:=by simpa using h
      exact absurd rfl he
     | error p =>
      obtain ⟨e',k⟩:=p;rw [hx] at h;obtain ⟨rfl,rfl,rfl⟩:[]=ts∧(l.length:Int) - k=n∧e'=e:=by simpa using h
      obtain ⟨q1,q2,q3⟩:=zKC _ _ _ _ _ (Nat.le_refl _) (by omega) hx;exact ⟨rfl,by omega,by omega,by omega,by omega⟩
   · rw [if_neg h2] at h
     obtain ⟨rfl,rfl,rfl⟩:[]=ts∧0=n∧50=e:=by simpa using h
     exact ⟨rfl,.inr (.inl rfl),by omega,by omega,by omega⟩
theorem zKr {t:Tk} (h:mayT t=true):t.attrs.length≤16:=by
 rcases zBT h with ⟨b,_,_,h3,_⟩ | ⟨_,_,h3,_⟩ | ⟨_,_,h3,_⟩
 · unfold zBb at h3
   rw [Bool.and_eq_true,decide_eq_true_eq] at h3;exact h3.2
 · rw [h3];simp
 · rw [h3];simp
theorem zN7 {l:List Tk} {x:List UInt8} (h:zDH l=(x,0)):lexR x=(l,0,0):=by
 unfold zDH at h
 by_cases h1:l.all mayT=true∧zBx l=true
 · rw [if_pos h1] at h
   by_cases h2:512 < l.length∨16384 < (l.flatMap zAO).length
   · rw [if_pos h2] at h;cases h
   · rw [if_neg h2] at h
     obtain ⟨rfl,_⟩:=(Prod.mk.injEq _ _ _ _).mp h;have hm:∀t∈l,mayT t=true:=List.all_eq_true.1 h1.1;exact zP6 (zK4 l hm h1.2) (zKy l hm) (by omega) (by omega) (fun t ht=>zKr (hm t ht))
 · rw [if_neg h1] at h;cases h
end Lx
namespace Tr
open Lx Tx Nmb Es
structure At where
 space:List UInt8
 name:List UInt8
 value:List UInt8
deriving instance DecidableEq for At
structure Nd where
 kind:Nat
 space:List UInt8
 name:List UInt8
 attrs:List At
 text:List UInt8
 many:Int
deriving instance DecidableEq for Nd
def atOk (a:At):Bool:=zAP a.name&&okT a.value&&okT a.space
def key (a:At):List UInt8 × List UInt8:=(a.space,a.name)
def zDN (l:List At):Bool:=l.all atOk&&decide ((l.map key).Nodup)&&decide (l.length≤16)
def ndOk (n:Nd):Bool :=
 if n.kind=1 then zAP n.name&&n.text.isEmpty&&okT n.space&&zDN n.attrs
 else if n.kind=2 then n.name.isEmpty&&n.space.isEmpty&&n.attrs.isEmpty&&decide (n.many=0)&& !n.text.isEmpty&&okT n.text
 else false
def zAG (g:List Nd→Option (List Nd)):Nat→Bool→List Nd→Option (Bool × List Nd)
 | 0,b,l=>some (b,l)
 | _+1,_,[]=>none
 | k+1,b,n::l=>if b=true∧n.kind=2 then none else match g (n::l) with
  | none=>none
  | some r=>zAG g k (decide (n.kind=2)) r
def zAE:Nat→List Nd→Option (List Nd)
 | _,[]=>none
 | 0,n::l=>if ndOk n=true∧n.kind=2 then some l else none
 | d+1,n::l=>if ndOk n=true∧0≤n.many then (zAG (zAE d) n.many.toNat false l).map (·.2) else none
def mayV (v:List Nd):Bool:=decide (v.length≤512)&&(v.head?.map fun n=>decide (n.kind=1))==some true&&decide (zAE 12 v=some [])
theorem zAs {v:List Nd}:mayV v=true↔v.length≤512∧(∃n l,v=n::l∧n.kind=1)∧zAE 12 v=some []:=by
 unfold mayV;rw [Bool.and_eq_true,Bool.and_eq_true,decide_eq_true_eq,decide_eq_true_eq,beq_iff_eq,and_assoc]
 cases v with
 | nil=>simp
 | cons n l=>simp
def Loc (g:List Nd→Option (List Nd)):Prop:=∀l r,g l=some r→∃p,p≠[]∧l=p++r∧∀x,g (p++x)=some x
theorem zBl {g:List Nd→Option (List Nd)} (hg:Loc g):∀(k:Nat) (b:Bool) (l:List Nd) (b':Bool) (r:List Nd),zAG g k b l=some (b',r)→∃p,l=p++r∧k≤p.length∧∀x,zAG g k b (p++x)=some (b',x):=by
 intro k
 induction k with
 | zero =>
  intro b l b' r h;rw [zAG] at h;obtain ⟨rfl,rfl⟩:=(Prod.mk.injEq _ _ _ _).mp (Option.some.inj h);exact ⟨[],rfl,Nat.le_refl _,fun x=>by rw [List.nil_append,zAG]⟩
 | succ k ih =>
  intro b l b' r h
  cases l with
  | nil=>rw [zAG] at h;cases h
  | cons n l =>
   rw [zAG] at h
   by_cases hb:b=true∧n.kind=2
   · rw [if_pos hb] at h;cases h
   · rw [if_neg hb] at h
     cases hn:g (n::l) with
     | none=>rw [hn] at h;cases h
     | some y =>
      rw [hn] at h;obtain ⟨q,hq,e1,h1⟩:=hg _ _ hn;obtain ⟨p,e2,h2,h3⟩:=ih _ _ _ _ h
      cases q with
      | nil=>exact absurd rfl hq
      | cons n' q =>
       injection e1 with e1 e3;subst e1 e3;refine ⟨n::q++p,by rw [e2];simp,by simp;omega,fun x=>?_⟩;have:=h1 (p++x);rw [List.append_assoc,List.cons_append,zAG,if_neg hb,←List.cons_append,this];exact h3 x
theorem zBD:∀d,Loc (zAE d):=by
 intro d
 induction d with
 | zero =>
  intro l r h
  cases l with
  | nil=>rw [zAE] at h;cases h
  | cons n l =>
   rw [zAE] at h
   by_cases hn:ndOk n=true∧n.kind=2
   · rw [if_pos hn] at h
     injection h with h;subst h;exact ⟨[n],by simp,rfl,fun x=>by rw [List.singleton_append,zAE,if_pos hn]⟩
   · rw [if_neg hn] at h;cases h
 | succ d ih =>
  intro l r h
  cases l with
  | nil=>rw [zAE] at h;cases h
  | cons n l =>
   rw [zAE] at h
   by_cases hn:ndOk n=true∧0≤n.many
   · rw [if_pos hn] at h
     cases hk:zAG (zAE d) n.many.toNat false l with
     | none=>rw [hk] at h;cases h
     | some y =>
      rw [hk] at h;obtain ⟨b',y⟩:=y;have h:y=r:=Option.some.inj h;subst h;obtain ⟨p,e,_,h3⟩:=zBl ih _ _ _ _ _ hk;exact ⟨n::p,by simp,by rw [e];rfl,fun x=>by rw [List.cons_append,zAE,if_pos hn,h3];rfl⟩
   · rw [if_neg hn] at h;cases h
theorem zEs {d:Nat} {l r:List Nd} (h:zAE d l=some r):r.length < l.length:=by
 obtain ⟨p,h1,rfl,_⟩:=zBD d l r h;have:=List.length_pos_iff.2 h1
 simp
 omega
theorem zD7 {d:Nat} {l r:List Nd} (h:zAE d l=some r):r=l.drop (l.length - r.length):=by
 obtain ⟨p,h1,rfl,_⟩:=zBD d l r h;rw [List.length_append,Nat.add_sub_cancel,List.drop_left]
theorem zDU {d k:Nat} {b b':Bool} {l r:List Nd} (h:zAG (zAE d) k b l=some (b',r)):r.length+k≤l.length:=by
 obtain ⟨p,rfl,h2,_⟩:=zBl (zBD d) k b l b' r h
 simp
 omega
theorem zA6 {n:Nd} (h:ndOk n=true) (hk:n.kind=2):n.many=0∧n.name=[]∧n.space=[]∧n.attrs=[]∧n.text≠[]∧okT n.text=true:=by
 unfold ndOk at h;rw [if_neg (by omega),if_pos hk] at h;simp only [Bool.and_eq_true,decide_eq_true_eq,List.isEmpty_iff,Bool.not_eq_true',List.isEmpty_eq_false_iff] at h;obtain ⟨⟨⟨⟨⟨h1,h2⟩,h3⟩,h4⟩,h5⟩,h6⟩:=h;exact ⟨h4,h1,h2,h3,h5,h6⟩
theorem zCj {n:Nd} (h:ndOk n=true) (hk:n.kind=1):zAP n.name=true∧n.text=[]∧okT n.space=true∧zDN n.attrs=true:=by
 unfold ndOk at h;rw [if_pos hk] at h;simp only [Bool.and_eq_true,List.isEmpty_iff] at h;obtain ⟨⟨⟨h1,h2⟩,h3⟩,h4⟩:=h;exact ⟨h1,h2,h3,h4⟩
theorem zBX {n:Nd} (h:ndOk n=true):n.kind=1∨n.kind=2:=by
 unfold ndOk at h
 by_cases h1:n.kind=1
 · exact .inl h1
 · by_cases h2:n.kind=2
   · exact .inr h2
   · rw [if_neg h1,if_neg h2] at h;cases h
theorem zFb {d:Nat} {n:Nd} {l:List Nd} (h:ndOk n=true) (hk:n.kind=2):zAE d (n::l)=some l:=by
 cases d with
 | zero=>rw [zAE,if_pos ⟨h,hk⟩]
 | succ d =>
  have h0:=(zA6 h hk).1;rw [zAE,if_pos ⟨h,by omega⟩,h0]
  rfl
theorem zBm {d:Nat} {n:Nd} {l r:List Nd} (h:zAE d (n::l)=some r):ndOk n=true∧0≤n.many∧∃b,zAG (zAE (d - 1)) n.many.toNat false l=some (b,r):=by
 cases d with
 | zero =>
  rw [zAE] at h
  by_cases hn:ndOk n=true∧n.kind=2
  · rw [if_pos hn] at h
    injection h with h;have h0:=(zA6 hn.1 hn.2).1;exact ⟨hn.1,by omega,false,by rw [h0,←h];rfl⟩
  · rw [if_neg hn] at h;cases h
 | succ d =>
  rw [zAE] at h
  by_cases hn:ndOk n=true∧0≤n.many
  · rw [if_pos hn] at h
    cases hk:zAG (zAE d) n.many.toNat false l with
    | none=>rw [hk] at h;cases h
    | some y =>
     rw [hk] at h;obtain ⟨b,y⟩:=y;have h:y=r:=Option.some.inj h;subst h;exact ⟨hn.1,hn.2,b,by rw [Nat.add_sub_cancel,hk]⟩
  · rw [if_neg hn] at h;cases h
def zAk (l:List At):List Pr:=l.map fun a=>⟨a.name,a.value⟩
def zAm (l:List Pr):List At:=l.map fun p=>⟨[],p.name,p.value⟩
def zBM (g:List Nd→List Tk × List Nd):Nat→List Nd→List Tk × List Nd
 | 0,l=>([],l)
 | k+1,l=>((g l).1++(zBM g k (g l).2).1,(zBM g k (g l).2).2)
def zAz:Nat→List Nd→List Tk × List Nd
 | _,[]=>([],[])
 | 0,n::l=>([⟨4,[],[],n.text⟩],l)
 | d+1,n::l=>if n.kind=2 then ([⟨4,[],[],n.text⟩],l) else if n.many=0 then ([⟨3,n.name,zAk n.attrs,[]⟩],l)
  else (⟨1,n.name,zAk n.attrs,[]⟩::((zBM (zAz d) n.many.toNat l).1++[⟨2,n.name,[],[]⟩]),(zBM (zAz d) n.many.toNat l).2)
theorem zFk {g:List Nd→Option (List Nd)} {t:List Nd→List Tk × List Nd} (ht:∀l r,g l=some r→(t l).2=r):∀(k:Nat) (b:Bool) (l:List Nd) (b':Bool) (r:List Nd),zAG g k b l=some (b',r)→(zBM t k l).2=r:=by
 intro k
 induction k with
 | zero =>
  intro b l b' r h;rw [zAG] at h;obtain ⟨rfl,rfl⟩:=(Prod.mk.injEq _ _ _ _).mp (Option.some.inj h)
  rfl
 | succ k ih =>
  intro b l b' r h
  cases l with
  | nil=>rw [zAG] at h;cases h
  | cons n l =>
   rw [zAG] at h
   by_cases hb:b=true∧n.kind=2
   · rw [if_pos hb] at h;cases h
   · rw [if_neg hb] at h
     cases hn:g (n::l) with
     | none=>rw [hn] at h;cases h
     | some y =>
      rw [hn] at h;rw [zBM,ht _ _ hn];exact ih _ _ _ _ h
theorem zC5:∀(d:Nat) (l r:List Nd),zAE d l=some r→(zAz d l).2=r:=by
 intro d
 induction d with
 | zero =>
  intro l r h
  cases l with
  | nil=>rw [zAE] at h;cases h
  | cons n l =>
   rw [zAE] at h
   by_cases hn:ndOk n=true∧n.kind=2
   · rw [if_pos hn] at h
     injection h with h
   · rw [if_neg hn] at h;cases h
 | succ d ih =>
  intro l r h
  cases l with
  | nil=>rw [zAE] at h;cases h
  | cons n l =>
   obtain ⟨h1,h2,b,h3⟩:=zBm h;rw [Nat.add_sub_cancel] at h3;rw [zAz]
   by_cases hk:n.kind=2
   · rw [if_pos hk]
     rw [(zA6 h1 hk).1,show (0:Int).toNat=0 from rfl,zAG] at h3;exact (congrArg Prod.snd (Option.some.inj h3))
   · rw [if_neg hk]
     by_cases hm:n.many=0
     · rw [if_pos hm]
       rw [hm,show (0:Int).toNat=0 from rfl,zAG] at h3;exact (congrArg Prod.snd (Option.some.inj h3))
     · rw [if_neg hm]
       exact zFk ih _ _ _ _ _ h3
def cnt (v:List Nd):Nat:=v.length+v.countP fun n=>decide (0 < n.many)
theorem zF7 (a b:List Nd):cnt (a++b)=cnt a+cnt b:=by unfold cnt;rw [List.length_append,List.countP_append];omega
theorem zG7 {d:Nat} (ht:∀l r,zAE d l=some r→(zAz d l).1.length+cnt r=cnt l):∀(k:Nat) (b:Bool) (l:List Nd) (b':Bool) (r:List Nd),zAG (zAE d) k b l=some (b',r)→(zBM (zAz d) k l).1.length+cnt r=cnt l:=by
 intro k
 induction k with
 | zero =>
  intro b l b' r h;rw [zAG] at h;obtain ⟨rfl,rfl⟩:=(Prod.mk.injEq _ _ _ _).mp (Option.some.inj h)
  simp [zBM]
 | succ k ih =>
  intro b l b' r h
  cases l with
  | nil=>rw [zAG] at h;cases h
  | cons n l =>
   rw [zAG] at h
   by_cases hb:b=true∧n.kind=2
   · rw [if_pos hb] at h;cases h
   · rw [if_neg hb] at h
     cases hn:zAE d (n::l) with
     | none=>rw [hn] at h;cases h
     | some y =>
      rw [hn] at h;have h1:=ht _ _ hn;have h2:=ih _ _ _ _ h;rw [zBM,zC5 _ _ _ hn,List.length_append]
      omega
theorem zEe:∀(d:Nat) (l r:List Nd),zAE d l=some r→(zAz d l).1.length+cnt r=cnt l:=by
 intro d
 induction d with
 | zero =>
  intro l r h
  cases l with
  | nil=>rw [zAE] at h;cases h
  | cons n l =>
   rw [zAE] at h
   by_cases hn:ndOk n=true∧n.kind=2
   · rw [if_pos hn] at h
     injection h with h;subst h;have:=(zA6 hn.1 hn.2).1;rw [zAz];unfold cnt;rw [List.countP_cons,if_neg (by simp;omega)]
     simp
     omega
   · rw [if_neg hn] at h;cases h
 | succ d ih =>
  intro l r h
  cases l with
  | nil=>rw [zAE] at h;cases h
  | cons n l =>
   obtain ⟨h1,h2,b,h3⟩:=zBm h;rw [Nat.add_sub_cancel] at h3;rw [zAz]
   have hc:cnt (n::l)=1+(if 0 < n.many then 1 else 0)+cnt l:=by
    unfold cnt;rw [List.countP_cons]
    simp
    split <;> omega
   by_cases hk:n.kind=2
   · have h0:=(zA6 h1 hk).1
     rw [if_pos hk];rw [h0,show (0:Int).toNat=0 from rfl,zAG] at h3;obtain ⟨_,rfl⟩:=(Prod.mk.injEq _ _ _ _).mp (Option.some.inj h3);rw [hc,if_neg (by omega)]
     simp
   · rw [if_neg hk]
     by_cases hm:n.many=0
     · rw [if_pos hm]
       rw [hm,show (0:Int).toNat=0 from rfl,zAG] at h3;obtain ⟨_,rfl⟩:=(Prod.mk.injEq _ _ _ _).mp (Option.some.inj h3);rw [hc,if_neg (by omega)]
       simp
     · rw [if_neg hm]
       have:=zG7 ih _ _ _ _ _ h3;rw [hc,if_pos (by omega)]
       simp
       omega
def rawN (n:Nd):Bool:=n.space.isEmpty&&n.attrs.all fun a=>a.space.isEmpty
def rawV (v:List Nd):Bool:=v.all rawN
theorem zCl {v:List Nd}:rawV v=true↔∀n∈v,n.space=[]∧∀a∈n.attrs,a.space=[]:=by
 unfold rawV rawN
 simp [List.all_eq_true]
def zA1 (v:List Nd):List Tk × Int:=if mayV v=true∧rawV v=true then (if 512 < (zAz 12 v).1.length then ([],4) else ((zAz 12 v).1,0)) else ([],8)
structure PS where
 V:List Nd
 O:List Nat
def zCX (n:Nd):Nd:={ n with many:=n.many+1 }
def bump (O:List Nat) (V:List Nd):List Nd:=match O.getLast? with
 | none=>V
 | some i=>V.modify i zCX
def zAu (t:Tk):Nd:=if t.kind=4 then ⟨2,[],[],[],t.text,0⟩ else ⟨1,[],t.name,zAm t.attrs,[],0⟩
def zBA (s:PS) (b:Bool) (t:Tk):Except Int PS :=
 if t.kind=4 then (if b=true then .error 80 else if s.O=[] then (if t.text.all blk=true then .ok s else .error 80) else .ok ⟨bump s.O s.V++[zAu t],s.O⟩)
 else if t.kind=2 then match s.O.getLast? with
  | none=>.error 80
  | some i=>if (s.V[i]?.map (·.name))=some t.name then .ok ⟨s.V,s.O.dropLast⟩ else .error 80
 else if s.O=[]∧s.V≠[] then .error 80 else if s.O.length=12 then .error 100
 else .ok ⟨bump s.O s.V++[zAu t],if t.kind=3 then s.O else s.O++[s.V.length]⟩
def runP:PS→Bool→List Tk→Except Int PS
 | s,_,[]=>.ok s
 | s,b,t::r=>match zBA s b t with
  | .error e=>.error e
  | .ok s'=>runP s' (decide (t.kind=4)) r
def endP (x:Except Int PS):List Nd × Int:=match x with
 | .error e=>([],e)
 | .ok s=>if s.V=[]∨s.O≠[] then ([],80) else (s.V,0)
def zBE (l:List Tk):List Nd × Int :=
 if 512 < l.length then ([],4) else if l.all mayT=true then endP (runP ⟨[],[]⟩ false l) else ([],8)
theorem zGW {s s':PS} {b:Bool} {t:Tk} {r:List Tk} (h:zBA s b t=.ok s'):runP s b (t::r)=runP s' (decide (t.kind=4)) r:=by rw [runP,h]
theorem zIy {l:List At} (h:∀a∈l,a.space=[]):zAm (zAk l)=l:=by
 unfold zAm zAk;rw [List.map_map];refine (List.map_congr_left (g:=id) fun a ha=>?_).trans (List.map_id _);have:=h a ha
 cases a
 subst this
 rfl
theorem zHz (O:List Nat) (i:Nat) (V:List Nd):bump (O++[i]) V=V.modify i zCX:=by unfold bump;rw [List.getLast?_concat]
theorem zFY (A:List Nd) (n:Nd) (B:List Nd):(A++n::B).modify A.length zCX=A++zCX n::B:=by
 induction A with
 | nil=>rfl
 | cons a A ih=>rw [List.cons_append,List.length_cons,List.modify_succ_cons,ih];rfl
def Runs (d:Nat):Prop:=∀(l r p:List Nd) (V:List Nd) (O:List Nat) (b:Bool) (n:Nd) (l':List Nd) (T:List Tk),zAE d l=some r→l=p++r→rawV p=true→l=n::l'→O.length=12 - d→d≤12→(O≠[]∨(V=[]∧n.kind=1))→¬(b=true∧n.kind=2) →
 runP ⟨V,O⟩ b ((zAz d l).1++T)=runP ⟨bump O V++p,O⟩ (decide (n.kind=2)) T
theorem zOg {d:Nat} (hR:Runs d) (hd:d≤12):∀(k:Nat) (l r p A B:List Nd) (n:Nd) (O:List Nat) (b b':Bool) (T:List Tk),zAG (zAE d) k b l=some (b',r)→l=p++r→rawV p=true→O.length+1=12 - d →
 ∃b2,runP ⟨A++n::B,O++[A.length]⟩ b ((zBM (zAz d) k l).1++T)=runP ⟨A++{ n with many:=n.many+k }::(B++p),O++[A.length]⟩ b2 T:=by
 intro k
 induction k with
 | zero =>
  intro l r p A B n O b b' T h hl hp hO;rw [zAG] at h;obtain ⟨rfl,rfl⟩:=(Prod.mk.injEq _ _ _ _).mp (Option.some.inj h);have:p=[]:=by simpa using hl
  subst this;exact ⟨b,by simp [zBM]⟩
 | succ k ih =>
  intro l r p A B n O b b' T h hl hp hO
  cases l with
  | nil=>rw [zAG] at h;cases h
  | cons m l =>
   rw [zAG] at h
   by_cases hb:b=true∧m.kind=2
   · rw [if_pos hb] at h;cases h
   · rw [if_neg hb] at h
     cases hn:zAE d (m::l) with
     | none=>rw [hn] at h;cases h
     | some y =>
      rw [hn] at h;have h:zAG (zAE d) k (decide (m.kind=2)) y=some (b',r):=h;obtain ⟨q,hq,e1,_⟩:=zBD d _ _ hn;obtain ⟨p2,e2,_⟩:=zBl (zBD d) _ _ _ _ _ h
      have e3:p=q++p2:=by
       have:p++r=(q++p2)++r:=by rw [←hl,e1,e2,List.append_assoc]
       exact List.append_cancel_right this
      have hq2:rawV q=true∧rawV p2=true:=by
       rw [e3] at hp;unfold rawV at hp ⊢;rw [List.all_append,Bool.and_eq_true] at hp;exact hp
      obtain ⟨b2,h2⟩:=ih y r p2 A (B++q) (zCX n) O (decide (m.kind=2)) b' T h e2 hq2.2 hO;refine ⟨b2,?_⟩;rw [zBM,zC5 _ _ _ hn,List.append_assoc,hR _ _ q _ _ b m l _ hn e1 hq2.1 rfl (by rw [List.length_append];simpa using hO) hd (.inl (by simp)) hb,zHz,zFY,List.append_assoc,List.cons_append];rw [h2,e3];show runP ⟨A++{ n with many:=n.many+1+(k:Int) }::(B++q++p2),_⟩ b2 T=_;rw [show n.many+1+(k:Int)=n.many+((k+1:Nat):Int) by omega,List.append_assoc]
theorem zO9:∀d,Runs d:=by
 intro d
 have text:∀(n:Nd) (V:List Nd) (O:List Nat) (b:Bool) (T:List Tk),ndOk n=true→n.kind=2→O≠[]→b≠true→runP ⟨V,O⟩ b (⟨4,[],[],n.text⟩::T)=runP ⟨bump O V++[n],O⟩ (decide (n.kind=2)) T:=by
  intro n V O b T h1 h2 h3 h4;obtain ⟨k1,k2,k3,k4,_,_⟩:=zA6 h1 h2
  have e:zBA ⟨V,O⟩ b ⟨4,[],[],n.text⟩=.ok ⟨bump O V++[n],O⟩:=by
   unfold zBA;rw [if_pos rfl,if_neg h4,if_neg h3]
   have:zAu ⟨4,[],[],n.text⟩=n:=by
    unfold zAu;rw [if_pos rfl]
    cases n
    dsimp only at h2 k1 k2 k3 k4;subst h2 k1 k2 k3 k4
    rfl
   rw [this]
  rw [zGW e,h2]
  rfl
 induction d with
 | zero =>
  intro l r p V O b n l' T h hl hp hn hO hd hOV hb;subst hn;rw [zAE] at h
  by_cases hk:ndOk n=true∧n.kind=2
  · rw [if_pos hk] at h
    injection h with h;subst h
    have e:p=[n]:=by
     have:[n]++l'=p++l':=hl;exact (List.append_cancel_right this).symm
    subst e;rw [zAz];rcases hOV with h3 | ⟨_,h3⟩
    · exact text n V O b T hk.1 hk.2 h3 (fun h4=>hb ⟨h4,hk.2⟩)
    · omega
  · rw [if_neg hk] at h;cases h
 | succ d ih =>
  intro l r p V O b n l' T h hl hp hn hO hd hOV hb;subst hn;obtain ⟨h1,h2,bb,h3⟩:=zBm h;rw [Nat.add_sub_cancel] at h3;obtain ⟨p',e',_⟩:=zBl (zBD d) _ _ _ _ _ h3
  have ep:p=n::p':=by
   have:(n::p')++r=p++r:=by rw [←hl,List.cons_append,←e']
   exact (List.append_cancel_right this).symm
  subst ep
  have hraw:rawV p'=true∧n.space=[]∧∀a∈n.attrs,a.space=[]:=by
   have hr:=zCl.1 hp;exact ⟨zCl.2 fun m hm=>hr m (List.mem_cons_of_mem _ hm),hr n List.mem_cons_self⟩
  rw [zAz]
  by_cases hk:n.kind=2
  · rw [if_pos hk]
    have h0:=(zA6 h1 hk).1;rw [h0,show (0:Int).toNat=0 from rfl,zAG] at h3;obtain ⟨_,e3⟩:=(Prod.mk.injEq _ _ _ _).mp (Option.some.inj h3);have ep:p'=[]:=by rw [e'] at e3;simpa using e3
    subst ep;rcases hOV with h4 | ⟨_,h4⟩
    · exact text n V O b T h1 hk h4 (fun h5=>hb ⟨h5,hk⟩)
    · omega
  · rw [if_neg hk]
    have hk1:n.kind=1:=(zBX h1).resolve_right hk;obtain ⟨f1,f2,f3,f4⟩:=zCj h1 hk1
    have en:∀(k:Nat),k≠4→zAu ⟨k,n.name,zAk n.attrs,[]⟩={ n with many:=0 }:=by
     intro k hk4;unfold zAu;rw [if_neg hk4];show (⟨1,[],n.name,zAm (zAk n.attrs),[],0⟩:Nd)=_;rw [zIy hraw.2.2];have:=hraw.2.1
     cases n
     dsimp only at this hk1 f2 ⊢;subst this hk1 f2
     rfl
    have g1:¬(O=[]∧V≠[]):=by
     rintro ⟨a1,a2⟩;rcases hOV with h4 | ⟨h4,_⟩
     · exact h4 a1
     · exact a2 h4
    have g2:O.length≠12:=by omega
    have hd2:decide (n.kind=2)=false:=decide_eq_false hk
    by_cases hm:n.many=0
    · rw [if_pos hm]
      rw [hm,show (0:Int).toNat=0 from rfl,zAG] at h3;obtain ⟨_,e3⟩:=(Prod.mk.injEq _ _ _ _).mp (Option.some.inj h3);have ep:p'=[]:=by rw [e'] at e3;simpa using e3
      subst ep
      have e:zBA ⟨V,O⟩ b ⟨3,n.name,zAk n.attrs,[]⟩=.ok ⟨bump O V++[n],O⟩:=by
       unfold zBA;rw [if_neg (show ¬(3:Nat)=4 by decide),if_neg (show ¬(3:Nat)=2 by decide),if_neg g1,if_neg g2,en 3 (by decide),if_pos rfl];rw [←hm]
      rw [List.singleton_append,zGW e,hd2]
      rfl
    · rw [if_neg hm]
      have e:zBA ⟨V,O⟩ b ⟨1,n.name,zAk n.attrs,[]⟩=.ok ⟨bump O V++[{ n with many:=0 }],O++[V.length]⟩:=by
       unfold zBA;rw [if_neg (show ¬(1:Nat)=4 by decide),if_neg (show ¬(1:Nat)=2 by decide),if_neg g1,if_neg g2,en 1 (by decide),if_neg (show ¬(1:Nat)=3 by decide)]
      have hbl:(bump O V).length=V.length:=by
       unfold bump
       cases O.getLast? with
       | none=>rfl
       | some i=>exact List.length_modify ..
      rw [List.cons_append,zGW e,List.append_assoc];obtain ⟨b2,h5⟩:=zOg ih (by omega) n.many.toNat l' r p' (bump O V) [] { n with many:=0 } O false bb ([⟨2,n.name,[],[]⟩]++T) h3 e' hraw.1 (by omega);rw [hbl] at h5;have h6:decide ((1:Nat)=4)=false:=rfl;rw [show decide ((⟨1,n.name,zAk n.attrs,[]⟩:Tk).kind=4)=false from rfl,h5]
      have en2:({ n with many:=(0:Int)+(n.many.toNat:Int) }:Nd)=n:=by
       rw [show (0:Int)+(n.many.toNat:Int)=n.many by omega]
      show runP ⟨bump O V++{ n with many:=(0:Int)+(n.many.toNat:Int) }::([]++p'),O++[V.length]⟩ b2 (⟨2,n.name,[],[]⟩::T)=_;rw [en2,List.nil_append]
      have e7:zBA ⟨bump O V++n::p',O++[V.length]⟩ b2 ⟨2,n.name,[],[]⟩=.ok ⟨bump O V++n::p',O⟩:=by
       unfold zBA;rw [if_neg (show ¬(2:Nat)=4 by decide),if_pos rfl];dsimp only;rw [List.getLast?_concat];dsimp only;rw [if_pos (by rw [←hbl,List.getElem?_append_right (Nat.le_refl _)];simp),List.dropLast_concat]
      rw [zGW e7,hd2]
      rfl
theorem zKi {v:List Nd} (h1:mayV v=true) (h2:rawV v=true):runP ⟨[],[]⟩ false (zAz 12 v).1=.ok ⟨v,[]⟩:=by
 obtain ⟨_,⟨n,l,rfl,hk⟩,h3⟩:=zAs.1 h1;have:=zO9 12 (n::l) [] (n::l) [] [] false n l [] h3 (by simp) h2 rfl rfl (Nat.le_refl _) (.inr ⟨rfl,hk⟩) (by simp);rw [List.append_nil] at this;rw [this]
 rfl
theorem zFm:∀(l acc:List Pr),zB5 acc l=true↔((l.map (·.name)).Nodup∧(∀p∈l,zAP p.name=true∧okT p.value=true∧hasL acc p.name=false)):=by
 intro l
 induction l with
 | nil=>intro acc;simp [zB5]
 | cons p r ih =>
  intro acc;rw [zB5];simp only [Bool.and_eq_true,Bool.not_eq_true',ih,List.map_cons,List.nodup_cons,List.mem_cons,forall_eq_or_imp]
  have hh:∀x:Pr,hasL (acc++[p]) x.name=false↔hasL acc x.name=false∧p.name≠x.name:=by
   intro x;unfold hasL;rw [List.any_append,Bool.or_eq_false_iff]
   simp
  constructor
  · rintro ⟨⟨⟨h1,h2⟩,h3⟩,h4,h5⟩
    refine ⟨⟨fun hm=>?_,h4⟩,⟨h1,h3,h2⟩,fun x hx=>?_⟩
    · obtain ⟨x,hx,e⟩:=List.mem_map.1 hm
      exact ((hh x).1 (h5 x hx).2.2).2 e.symm
    · obtain ⟨k1,k2,k3⟩:=h5 x hx
      exact ⟨k1,k2,((hh x).1 k3).1⟩
  · rintro ⟨⟨h1,h2⟩,⟨h3,h4,h5⟩,h6⟩
    refine ⟨⟨⟨h3,h5⟩,h4⟩,h2,fun x hx=>?_⟩;obtain ⟨k1,k2,k3⟩:=h6 x hx;exact ⟨k1,k2,(hh x).2 ⟨k3,fun e=>h1 (List.mem_map.2 ⟨x,hx,e.symm⟩)⟩⟩
theorem zGd:okT []=true:=rfl
theorem zIU {l:List Pr} (h:zBb l=true):zDN (zAm l)=true:=by
 unfold zBb at h;rw [Bool.and_eq_true,decide_eq_true_eq,zFm] at h;obtain ⟨⟨h1,h2⟩,h3⟩:=h;unfold zDN;simp only [Bool.and_eq_true,decide_eq_true_eq];refine ⟨⟨List.all_eq_true.2 fun a ha=>?_,?_⟩,by unfold zAm;rwa [List.length_map]⟩
 · obtain ⟨p,hp,rfl⟩:=List.mem_map.1 ha
   obtain ⟨k1,k2,_⟩:=h2 p hp;unfold atOk;rw [show zAP p.name=true from k1,show okT p.value=true from k2]
   rfl
 · have:(zAm l).map key=(l.map (·.name)).map fun x=>(([]:List UInt8),x):=by
    unfold zAm;rw [List.map_map,List.map_map]
    rfl
   rw [this];exact List.Pairwise.map _ (fun a b hab e=>hab ((Prod.mk.injEq _ _ _ _).mp e).2) h1
theorem zJM {l:List At} (h:zDN l=true) (hr:∀a∈l,a.space=[]):zBb (zAk l)=true:=by
 unfold zDN at h;simp only [Bool.and_eq_true,decide_eq_true_eq] at h;obtain ⟨⟨h1,h2⟩,h3⟩:=h;unfold zBb;rw [Bool.and_eq_true,decide_eq_true_eq,zFm];refine ⟨⟨?_,fun p hp=>?_⟩,by unfold zAk;rwa [List.length_map]⟩
 · have e:(zAk l).map (·.name)=l.map (·.name):=by
    unfold zAk;rw [List.map_map]
    rfl
   have e2:l.map key=(l.map (·.name)).map fun x=>(([]:List UInt8),x):=by
    rw [List.map_map];exact List.map_congr_left fun a ha=>by show (a.space,a.name)=([],a.name);rw [hr a ha]
   rw [e2] at h2;rw [e];exact List.Pairwise.of_map _ (fun a b hab e=>hab (by rw [e])) h2
 · obtain ⟨a,ha,rfl⟩:=List.mem_map.1 hp
   have:=List.all_eq_true.1 h1 a ha;unfold atOk at this;simp only [Bool.and_eq_true] at this;exact ⟨this.1.1,this.1.2,rfl⟩
theorem zJn {t:Tk} (h:mayT t=true) (h2:t.kind≠2):ndOk (zAu t)=true∧rawN (zAu t)=true∧(zAu t).many=0∧(zAu t).kind=(if t.kind=4 then 2 else 1):=by
 rcases zBT h with ⟨b,hk,k1,k3,k4⟩ | ⟨hk,_⟩ | ⟨hk,k1,k2,k3,k4⟩
 · have hk4:t.kind≠4:=by rw [hk];cases b <;> decide
   have e:zAu t=⟨1,[],t.name,zAm t.attrs,[],0⟩:=by unfold zAu;rw [if_neg hk4]
   refine ⟨?_,?_,by rw [e],by rw [e,if_neg hk4]⟩
   · rw [e]
     unfold ndOk;rw [if_pos rfl];simp only [k1,zIU k3]
     rfl
   · rw [e]
     unfold rawN zAm
     simp
 · exact absurd hk h2
 · have e:zAu t=⟨2,[],[],[],t.text,0⟩:=by unfold zAu;rw [if_pos hk]
   refine ⟨?_,by rw [e];rfl,by rw [e],by rw [e,if_pos hk]⟩;rw [e];unfold ndOk;rw [if_neg (show ¬(2:Nat)=1 by decide),if_pos rfl]
   simp [k3,k4]
theorem zK0 {g:List Nd→Option (List Nd)}:∀(k:Nat) (b b1:Bool) (l:List Nd) (n:Nd) (m r:List Nd),zAG g k b l=some (b1,n::m)→¬(b1=true∧n.kind=2)→g (n::m)=some r→zAG g (k+1) b l=some (decide (n.kind=2),r):=by
 intro k
 induction k with
 | zero =>
  intro b b1 l n m r h hb hg;rw [zAG] at h;obtain ⟨rfl,rfl⟩:=(Prod.mk.injEq _ _ _ _).mp (Option.some.inj h);rw [zAG,if_neg hb,hg]
  rfl
 | succ k ih =>
  intro b b1 l n m r h hb hg
  cases l with
  | nil=>rw [zAG] at h;cases h
  | cons x l =>
   rw [zAG] at h
   by_cases hx:b=true∧x.kind=2
   · rw [if_pos hx] at h;cases h
   · rw [if_neg hx] at h
     cases hn:g (x::l) with
     | none=>rw [hn] at h;cases h
     | some y =>
      rw [hn] at h;rw [zAG,if_neg hx,hn];exact ih _ _ _ _ _ _ h hb hg
theorem zFS {d k:Nat} {b b1:Bool} {l:List Nd} {n:Nd} {m:List Nd} (h:zAG (zAE d) k b l=some (b1,[])) (hb:¬(b1=true∧n.kind=2)) (hg:zAE d (n::m)=some []):zAG (zAE d) (k+1) b (l++n::m)=some (decide (n.kind=2),[]):=by
 obtain ⟨p,e,_,h3⟩:=zBl (zBD d) _ _ _ _ _ h;rw [List.append_nil] at e;subst e;exact zK0 k b b1 _ n m [] (h3 _) hb hg
structure Fr where
 n:Nd
 ks:List Nd
def zDV:List Fr→List Nd
 | []=>[]
 | f::fs=>f.n::(f.ks++zDV fs)
def posF:Nat→List Fr→List Nat
 | _,[]=>[]
 | p,f::fs=>p::posF (p+1+f.ks.length) fs
theorem zD5 (gs:List Fr) (f:Fr):zDV (gs++[f])=zDV gs++f.n::f.ks:=by
 induction gs with
 | nil=>simp [zDV]
 | cons g gs ih=>simp [zDV,ih]
theorem zHe:∀(gs:List Fr) (f:Fr) (p:Nat),posF p (gs++[f])=posF p gs++[p+(zDV gs).length]:=by
 intro gs
 induction gs with
 | nil=>intro f p;simp [posF,zDV]
 | cons g gs ih =>
  intro f p;rw [List.cons_append,posF,posF,ih,List.cons_append,zDV,List.length_cons,List.length_append];rw [show p+1+g.ks.length+(zDV gs).length=p+(g.ks.length+(zDV gs).length+1) by omega]
def frOk (d:Nat) (f:Fr) (m:Nat) (b:Bool):Prop:=ndOk f.n=true∧f.n.kind=1∧rawN f.n=true∧rawV f.ks=true∧1≤d∧zAG (zAE (d - 1)) m false f.ks=some (b,[])
def okG:Nat→List Fr→Prop
 | _,[]=>True
 | d,f::gs=>(1≤f.n.many∧∃b,frOk d f (f.n.many.toNat - 1) b)∧okG (d - 1) gs
theorem zJ8:∀(gs:List Fr) (f:Fr) (d:Nat),okG d (gs++[f])↔okG d gs∧(1≤f.n.many∧∃b,frOk (d - gs.length) f (f.n.many.toNat - 1) b):=by
 intro gs
 induction gs with
 | nil=>intro f d;simp [okG]
 | cons g gs ih =>
  intro f d;rw [List.cons_append,okG,okG,ih,List.length_cons,show d - 1 - gs.length=d - (gs.length+1) by omega,and_assoc,and_assoc,and_assoc]
def cntF (fs:List Fr):Nat:=(fs.map fun f=>1+cnt f.ks).sum
def InvP (s:PS) (b:Bool) (i:Nat):Prop :=
 (∃gs f b1,s.V=zDV gs++f.n::f.ks∧s.O=posF 0 gs++[(zDV gs).length]∧okG 12 gs∧0≤f.n.many∧frOk (12 - gs.length) f f.n.many.toNat b1∧(b1=true→b=true)∧cntF gs+1+cnt f.ks≤i) ∨
 (s.O=[]∧(s.V=[]∨((∃n l,s.V=n::l∧n.kind=1)∧zAE 12 s.V=some []∧rawV s.V=true∧cnt s.V≤i)))
theorem zLc (A:List Nd) (n:Nd) (B:List Nd) (O:List Nat):bump (O++[A.length]) (A++n::B)=A++zCX n::B:=by rw [zHz,zFY]
theorem zIh {n:Nd} (h:n.many=0):cnt [n]=1:=by
 unfold cnt;rw [List.countP_cons,if_neg (by simp;omega)]
 simp
theorem zGo {d:Nat} {f:Fr} {b1:Bool} {m:Nd} {ks:List Nd} (h0:0≤f.n.many) (h:frOk d f f.n.many.toNat b1) (hb:¬(b1=true∧m.kind=2)) (hm:zAE (d - 1) (m::ks)=some []) (hr:rawV (m::ks)=true) :
 frOk d ⟨zCX f.n,f.ks++m::ks⟩ (zCX f.n).many.toNat (decide (m.kind=2)):=by
 obtain ⟨k1,k2,k3,k4,k5,k6⟩:=h;refine ⟨?_,k2,k3,?_,k5,?_⟩
 · unfold ndOk at k1 ⊢
   rw [if_pos k2] at k1;rw [if_pos (show (zCX f.n).kind=1 from k2)];exact k1
 · show rawV (f.ks++m::ks)=true
   unfold rawV at k4 hr ⊢;rw [List.all_append,Bool.and_eq_true];exact ⟨k4,hr⟩
 · have e:(zCX f.n).many.toNat=f.n.many.toNat+1:=by show (f.n.many+1).toNat=_;omega
   rw [e];exact zFS k6 hb hm
theorem InvP.step {s s':PS} {b:Bool} {t:Tk} {i:Nat} (h:InvP s b i) (ht:mayT t=true) (hs:zBA s b t=.ok s'):InvP s' (decide (t.kind=4)) (i+1):=by
 unfold zBA at hs
 by_cases h4:t.kind=4
 · rw [if_pos h4] at hs
   by_cases hb:b=true
   · rw [if_pos hb] at hs;cases hs
   · rw [if_neg hb] at hs
     by_cases hO:s.O=[]
     · rw [if_pos hO] at hs
       by_cases hw:t.text.all blk=true
       · rw [if_pos hw] at hs
         injection hs with hs;subst hs;rcases h with ⟨gs,f,_,_,e,_⟩ | ⟨e,h⟩
         · rw [hO] at e;simp at e
         · refine .inr ⟨e,?_⟩
           rcases h with h | ⟨h1,h2,h3,h4⟩
           · exact .inl h
           · exact .inr ⟨h1,h2,h3,by omega⟩
       · rw [if_neg hw] at hs;cases hs
     · rw [if_neg hO] at hs
       injection hs with hs;subst hs;obtain ⟨n1,n2,n3,n4⟩:=zJn ht (by omega);rw [if_pos h4] at n4;rcases h with ⟨gs,f,b1,eV,eO,hG,h0,hF,hb1,hc⟩ | ⟨e,_⟩
       · refine .inl ⟨gs,⟨zCX f.n,f.ks++[zAu t]⟩,_,?_,eO,hG,?_,zGo h0 hF (fun hh=>hb (hb1 hh.1)) (zFb n1 n4) ?_,fun _=>by rw [h4];rfl,?_⟩
         · show bump s.O s.V++[zAu t]=_
           rw [eO,eV,zLc,List.append_assoc]
           rfl
         · show 0≤f.n.many+1
           omega
         · unfold rawV
           simp [n2]
         · show cntF gs+1+cnt (f.ks++[zAu t])≤i+1
           rw [zF7,zIh n3]
           omega
       · exact absurd e hO
 · rw [if_neg h4] at hs
   rw [decide_eq_false h4]
   by_cases h2:t.kind=2
   · rw [if_pos h2] at hs
     rcases h with ⟨gs,f,b1,eV,eO,hG,h0,hF,hb1,hc⟩ | ⟨e,_⟩
     · rw [eO,List.getLast?_concat] at hs
       dsimp only at hs
       by_cases hn:(s.V[(zDV gs).length]?.map (·.name))=some t.name
       · rw [if_pos hn,List.dropLast_concat] at hs
         injection hs with hs;subst hs;obtain ⟨k1,k2,k3,k4,k5,k6⟩:=hF
         have hrest:zAE (12 - gs.length) (f.n::f.ks)=some []:=by
          obtain ⟨d,hd⟩:∃d,12 - gs.length=d+1:=⟨12 - gs.length - 1,by omega⟩;rw [hd,Nat.add_sub_cancel] at k6;rw [hd,zAE,if_pos ⟨k1,h0⟩,k6]
          rfl
         have hraw:rawV (f.n::f.ks)=true:=by
          unfold rawV at k4 ⊢;rw [List.all_cons,k3,k4]
          rfl
         have hcn:cnt (f.n::f.ks)≤cnt f.ks+2:=by
          rw [show f.n::f.ks=[f.n]++f.ks from rfl,zF7]
          have:cnt [f.n]≤2:=by
           unfold cnt;have:=List.countP_le_length (p:=fun n:Nd=>decide (0 < n.many)) (l:=[f.n])
           simp at this ⊢
           omega
          omega
         rcases List.eq_nil_or_concat gs with rfl | ⟨gs',g,egs⟩
         · refine .inr ⟨rfl,.inr ⟨⟨f.n,f.ks,eV,k2⟩,?_,?_,?_⟩⟩
           · show zAE 12 s.V=some []
             rw [eV];exact hrest
           · show rawV s.V=true
             rw [eV];exact hraw
           · show cnt s.V≤i+1
             rw [eV];show cnt (f.n::f.ks)≤i+1
             simp [cntF] at hc
             omega
         · rw [List.concat_eq_append] at egs
           subst egs;obtain ⟨g1,g2,b2,g3⟩:=(zJ8 gs' g 12).1 hG;rw [List.length_append,List.length_singleton] at hrest;obtain ⟨q1,q2,q3,q4,q5,q6⟩:=g3;refine .inl ⟨gs',⟨g.n,g.ks++f.n::f.ks⟩,false,?_,?_,g1,by show 0≤g.n.many;omega,⟨q1,q2,q3,?_,q5,?_⟩,(fun hh=>by cases hh),?_⟩
           · show s.V=_
             rw [eV,zD5]
             simp
           · show posF 0 (gs'++[g])=_
             rw [zHe,Nat.zero_add]
           · show rawV (g.ks++f.n::f.ks)=true
             unfold rawV at q4 hraw ⊢;rw [List.all_append,q4,hraw]
             rfl
           · have:=zFS (n:=f.n) (m:=f.ks) q6 (fun hh=>by omega) (by rw [show 12 - gs'.length - 1=12 - (gs'.length+1) by omega];exact hrest)
             rw [show g.n.many.toNat - 1+1=g.n.many.toNat by omega,k2] at this;exact this
           · show cntF gs'+1+cnt (g.ks++f.n::f.ks)≤i+1
             rw [zF7];unfold cntF at hc ⊢;rw [List.map_append,List.sum_append] at hc
             simp at hc
             omega
       · rw [if_neg hn] at hs;cases hs
     · rw [e] at hs
       cases hs
   · rw [if_neg h2] at hs
     obtain ⟨n1,n2,n3,n4⟩:=zJn ht h2;rw [if_neg h4] at n4
     by_cases hO:s.O=[]∧s.V≠[]
     · rw [if_pos hO] at hs;cases hs
     · rw [if_neg hO] at hs
       by_cases h12:s.O.length=12
       · rw [if_pos h12] at hs;cases hs
       · rw [if_neg h12] at hs
         injection hs with hs;subst hs;have hrawt:rawV [zAu t]=true:=by unfold rawV;simp [n2]
         have hone:∀d,1≤d→zAE d [zAu t]=some []:=by
          intro d hd;obtain ⟨d,rfl⟩:∃e,d=e+1:=⟨d - 1,by omega⟩;rw [zAE,if_pos ⟨n1,by omega⟩,n3]
          rfl
         rcases h with ⟨gs,f,b1,eV,eO,hG,h0,hF,hb1,hc⟩ | ⟨e,h⟩
         · have hlen:(posF 0 gs).length=gs.length:=by
            have:∀(gs:List Fr) (p:Nat),(posF p gs).length=gs.length:=by
             intro gs
             induction gs with
             | nil=>intro p;rfl
             | cons g gs ih=>intro p;simp [posF,ih]
            exact this gs 0
           rw [eO,List.length_append,List.length_singleton,hlen] at h12;have hd:=hF.2.2.2.2.1;have eb:bump s.O s.V=zDV gs++zCX f.n::f.ks:=by rw [eO,eV,zLc]
           by_cases h3:t.kind=3
           · rw [if_pos h3,eb]
             refine .inl ⟨gs,⟨zCX f.n,f.ks++[zAu t]⟩,_,?_,eO,hG,?_,zGo h0 hF (fun hh=>by omega) (hone _ (by omega)) hrawt,fun hh=>?_,?_⟩
             · simp
             · show 0≤f.n.many+1
               omega
             · rw [n4] at hh
               cases hh
             · show cntF gs+1+cnt (f.ks++[zAu t])≤i+1
               rw [zF7,zIh n3]
               omega
           · rw [if_neg h3,eb]
             refine .inl ⟨gs++[⟨zCX f.n,f.ks⟩],⟨zAu t,[]⟩,false,?_,?_,(zJ8 _ _ _).2 ⟨hG,?_,b1,?_⟩,?_,⟨n1,n4,n2,rfl,?_,?_⟩,(fun hh=>by cases hh),?_⟩
             · rw [zD5]
             · show s.O++[s.V.length]=_
               rw [zHe,zD5,eO,eV,Nat.zero_add]
               simp
             · show 1≤f.n.many+1
               omega
             · obtain ⟨k1,k2,k3,k4,k5,k6⟩:=hF
               refine ⟨?_,k2,k3,k4,k5,?_⟩
               · unfold ndOk at k1 ⊢
                 rw [if_pos k2] at k1;rw [if_pos (show (zCX f.n).kind=1 from k2)];exact k1
               · show zAG (zAE (12 - gs.length - 1)) ((f.n.many+1).toNat - 1) false f.ks=some (b1,[])
                 rw [show (f.n.many+1).toNat - 1=f.n.many.toNat by omega];exact k6
             · show 0≤(zAu t).many
               omega
             · rw [List.length_append,List.length_singleton]
               omega
             · show zAG _ (zAu t).many.toNat false []=_
               rw [n3]
               rfl
             · unfold cntF at hc ⊢
               rw [List.map_append,List.sum_append]
               simp [cnt] at hc ⊢
               omega
         · have hV:s.V=[]:=by
            by_cases hv:s.V=[]
            · exact hv
            · exact absurd ⟨e,hv⟩ hO
           rw [e,hV]
           by_cases h3:t.kind=3
           · rw [if_pos h3]
             exact .inr ⟨rfl,.inr ⟨⟨zAu t,[],rfl,n4⟩,hone 12 (by decide),hrawt,by show cnt [zAu t]≤i+1;rw [zIh n3];omega⟩⟩
           · rw [if_neg h3]
             refine .inl ⟨[],⟨zAu t,[]⟩,false,rfl,rfl,trivial,by show 0≤(zAu t).many;omega,⟨n1,n4,n2,rfl,by decide,?_⟩,(fun hh=>by cases hh),by simp [cntF,cnt]⟩;show zAG _ (zAu t).many.toNat false []=_;rw [n3]
             rfl
theorem InvP.run:∀(l:List Tk) (s s':PS) (b:Bool) (i:Nat),InvP s b i→(∀t∈l,mayT t=true)→runP s b l=.ok s'→∃b',InvP s' b' (i+l.length):=by
 intro l
 induction l with
 | nil =>
  intro s s' b i h _ hr;rw [runP] at hr;injection hr with hr;subst hr;exact ⟨b,h⟩
 | cons t l ih =>
  intro s s' b i h ht hr;rw [runP] at hr
  cases hst:zBA s b t with
  | error e=>rw [hst] at hr;cases hr
  | ok s1 =>
   rw [hst] at hr;obtain ⟨b',h'⟩:=ih s1 s' _ (i+1) (h.step (ht t (by simp)) hst) (fun x hx=>ht x (by simp [hx])) hr;exact ⟨b',by rw [List.length_cons,show i+(l.length+1)=i+1+l.length by omega];exact h'⟩
theorem zQZ {x:Except Int PS} {v:List Nd} (h:endP x=(v,0)) (hx:∀e,x=.error e→e≠0):∃s,x=.ok s∧s.V=v∧s.V≠[]∧s.O=[]:=by
 cases x with
 | error e =>
  have h:(([]:List Nd),e)=(v,0):=h;exact absurd ((Prod.mk.injEq _ _ _ _).mp h).2 (hx e rfl)
 | ok s =>
  have h:(if s.V=[]∨s.O≠[] then (([]:List Nd),(80:Int)) else (s.V,0))=(v,0):=h
  by_cases hc:s.V=[]∨s.O≠[]
  · rw [if_pos hc] at h
    cases h
  · rw [if_neg hc] at h
    rw [not_or,Decidable.not_not] at hc;exact ⟨s,rfl,((Prod.mk.injEq _ _ _ _).mp h).1,hc.1,hc.2⟩
theorem zHj {s:PS} {b:Bool} {t:Tk} {e:Int} (h:zBA s b t=.error e):e=80∨e=100:=by
 unfold zBA at h
 repeat' split at h
 all_goals first
  | (cases h;done)
  | (injection h with h;subst h;simp)
theorem zGa:∀(l:List Tk) (s:PS) (b:Bool) (e:Int),runP s b l=.error e→e=80∨e=100:=by
 intro l
 induction l with
 | nil=>intro s b e h;rw [runP] at h;cases h
 | cons t l ih =>
  intro s b e h;rw [runP] at h
  cases hs:zBA s b t with
  | error e' =>
   rw [hs] at h;injection h with h;subst h;exact zHj hs
  | ok s' =>
   rw [hs] at h;exact ih _ _ _ h
theorem zMW {l:List Tk} {v:List Nd} (h:zBE l=(v,0)):mayV v=true∧rawV v=true∧l.length≤512∧l.all mayT=true∧(zAz 12 v).1.length≤512∧v.length≤l.length:=by
 unfold zBE at h
 by_cases h1:512 < l.length
 · rw [if_pos h1] at h;cases h
 · rw [if_neg h1] at h
   by_cases h2:l.all mayT=true
   · rw [if_pos h2] at h
     obtain ⟨s,hs,rfl,hV,hO⟩:=zQZ h (fun e he=>by rcases zGa _ _ _ _ he with rfl | rfl <;> decide);obtain ⟨b',hI⟩:=InvP.run l _ _ false 0 (.inr ⟨rfl,.inl rfl⟩) (fun t ht=>List.all_eq_true.1 h2 t ht) hs;rcases hI with ⟨gs,f,_,_,e,_⟩ | ⟨_,e | ⟨k1,k2,k3,k4⟩⟩
     · rw [hO] at e;simp at e
     · exact absurd e hV
     · have hc:=zEe 12 s.V [] k2
       have h0:cnt ([]:List Nd)=0:=rfl;have hl:s.V.length≤cnt s.V:=by unfold cnt;omega
       exact ⟨zAs.2 ⟨by omega,k1,k2⟩,k3,by omega,h2,by omega,by omega⟩
   · rw [if_neg h2] at h;cases h
theorem zHs {l:List Tk} {v:List Nd} {e:Int} (h:zBE l=(v,e)) (he:e≠0):v=[]∧(e=4∨e=8∨e=80∨e=100):=by
 unfold zBE at h
 by_cases h1:512 < l.length
 · rw [if_pos h1] at h
   obtain ⟨rfl,rfl⟩:=(Prod.mk.injEq _ _ _ _).mp h
   simp
 · rw [if_neg h1] at h
   by_cases h2:l.all mayT=true
   · rw [if_pos h2] at h
     cases hr:runP ⟨[],[]⟩ false l with
     | error e' =>
      rw [hr] at h;have h:(([]:List Nd),e')=(v,e):=h;obtain ⟨rfl,rfl⟩:=(Prod.mk.injEq _ _ _ _).mp h;rcases zGa _ _ _ _ hr with rfl | rfl <;> simp
     | ok s =>
      rw [hr] at h;have h:(if s.V=[]∨s.O≠[] then (([]:List Nd),(80:Int)) else (s.V,0))=(v,e):=h
      by_cases hc:s.V=[]∨s.O≠[]
      · rw [if_pos hc] at h
        obtain ⟨rfl,rfl⟩:=(Prod.mk.injEq _ _ _ _).mp h
        simp
      · rw [if_neg hc] at h
        exact absurd ((Prod.mk.injEq _ _ _ _).mp h).2.symm he
   · rw [if_neg h2] at h
     obtain ⟨rfl,rfl⟩:=(Prod.mk.injEq _ _ _ _).mp h
     simp
theorem zLn {d:Nat} (hd:∀l r,zAE d l=some r→rawV l=true→∀t∈(zAz d l).1,mayT t=true):∀(k:Nat) (b:Bool) (l:List Nd) (y:Bool × List Nd),zAG (zAE d) k b l=some y→rawV l=true→∀t∈(zBM (zAz d) k l).1,mayT t=true:=by
 intro k
 induction k with
 | zero=>intro b l y _ _ t ht;simp [zBM] at ht
 | succ k ih =>
  intro b l y h hr t ht
  cases l with
  | nil=>rw [zAG] at h;cases h
  | cons n l =>
   rw [zAG] at h
   by_cases hb:b=true∧n.kind=2
   · rw [if_pos hb] at h;cases h
   · rw [if_neg hb] at h
     cases hn:zAE d (n::l) with
     | none=>rw [hn] at h;cases h
     | some z =>
      rw [hn] at h;rw [zBM,zC5 _ _ _ hn,List.mem_append] at ht;rcases ht with ht | ht
      · exact hd _ _ hn hr t ht
      · refine ih _ _ _ h ?_ t ht
        have hz:=zD7 hn;rw [hz];exact zCl.2 fun m hm=>zCl.1 hr m (List.mem_of_mem_drop hm)
theorem zO3:∀(d:Nat) (l r:List Nd),zAE d l=some r→rawV l=true→∀t∈(zAz d l).1,mayT t=true:=by
 intro d
 have text:∀n,ndOk n=true→n.kind=2→mayT ⟨4,[],[],n.text⟩=true:=by
  intro n h hk;obtain ⟨_,_,_,_,h5,h6⟩:=zA6 h hk;unfold mayT;rw [if_neg (show ¬((4:Nat)=1∨(4:Nat)=3) by decide),if_neg (show ¬(4:Nat)=2 by decide),if_pos rfl]
  simp [h5,h6]
 induction d with
 | zero =>
  intro l r h hr t ht
  cases l with
  | nil=>rw [zAE] at h;cases h
  | cons n l =>
   rw [zAE] at h
   by_cases hn:ndOk n=true∧n.kind=2
   · rw [zAz,List.mem_singleton] at ht
     subst ht;exact text n hn.1 hn.2
   · rw [if_neg hn] at h;cases h
 | succ d ih =>
  intro l r h hr t ht
  cases l with
  | nil=>rw [zAE] at h;cases h
  | cons n l =>
   obtain ⟨h1,h2,b,h3⟩:=zBm h;rw [Nat.add_sub_cancel] at h3;rw [zAz] at ht;have hrn:=zCl.1 hr
   by_cases hk:n.kind=2
   · rw [if_pos hk,List.mem_singleton] at ht
     subst ht;exact text n h1 hk
   · rw [if_neg hk] at ht
     have hk1:=(zBX h1).resolve_right hk;obtain ⟨f1,f2,f3,f4⟩:=zCj h1 hk1;have hp:=zJM f4 (hrn n (by simp)).2
     have tg:∀k,k=1∨k=3→mayT ⟨k,n.name,zAk n.attrs,[]⟩=true:=by
      intro k hk;unfold mayT;rw [if_pos hk];simp only [f1,hp]
      rfl
     by_cases hm:n.many=0
     · rw [if_pos hm,List.mem_singleton] at ht
       subst ht;exact tg 3 (.inr rfl)
     · rw [if_neg hm] at ht
       rcases List.mem_cons.1 ht with rfl | ht
       · exact tg 1 (.inl rfl)
       · rcases List.mem_append.1 ht with ht | ht
         · exact zLn ih _ _ _ _ h3 (zCl.2 fun m hm=>hrn m (List.mem_cons_of_mem _ hm)) t ht
         · rw [List.mem_singleton] at ht
           subst ht;unfold mayT;rw [if_neg (show ¬((2:Nat)=1∨(2:Nat)=3) by decide),if_pos rfl]
           simp [f1]
theorem zGw {v:List Nd} {l:List Tk} (h:zA1 v=(l,0)):zBE l=(v,0)∧mayV v=true∧rawV v=true:=by
 unfold zA1 at h
 by_cases h1:mayV v=true∧rawV v=true
 · rw [if_pos h1] at h
   by_cases h2:512 < (zAz 12 v).1.length
   · rw [if_pos h2] at h;cases h
   · rw [if_neg h2] at h
     have h3:=((Prod.mk.injEq _ _ _ _).mp h).1;refine ⟨?_,h1⟩;subst h3;obtain ⟨_,⟨n,x,e,_⟩,k3⟩:=zAs.1 h1.1;unfold zBE;rw [if_neg h2,if_pos (List.all_eq_true.2 fun t ht=>zO3 12 v [] k3 h1.2 t ht),zKi h1.1 h1.2];show (if v=[]∨([]:List Nat)≠[] then _ else _)=_;rw [if_neg (by rw [e];simp)]
 · rw [if_neg h1] at h;cases h
end Tr
namespace Ns
open Lx Tr Tx Nmb Es
def zAb (g:List Nd→(List Nd × Bool) × List Nd):Nat→List Nd→(List Nd × Bool) × List Nd
 | 0,l=>(([],true),l)
 | k+1,l=>(((g l).1.1++(zAb g k (g l).2).1.1,(g l).1.2&&(zAb g k (g l).2).1.2),(zAb g k (g l).2).2)
def zAK {ε:Type} (f:ε→Nd→Nd × Bool) (dn:ε→Nd→ε):Nat→ε→List Nd→(List Nd × Bool) × List Nd
 | _,_,[]=>(([],true),[])
 | 0,_,n::l=>(([n],true),l)
 | d+1,e,n::l=>if n.kind=2 then (([n],true),l) else
  (((f e n).1::(zAb (zAK f dn d (dn e n)) n.many.toNat l).1.1,(f e n).2&&(zAb (zAK f dn d (dn e n)) n.many.toNat l).1.2),(zAb (zAK f dn d (dn e n)) n.many.toNat l).2)
theorem zLj {s nm:List UInt8} {l:List At} {m:Int} (h1:zAP nm=true) (h2:okT s=true) (h3:zDN l=true):ndOk ⟨1,s,nm,l,[],m⟩=true:=by
 unfold ndOk;rw [if_pos rfl]
 simp [h1,h2,h3]
theorem zCF {l:List At}:zDN l=true↔(∀a∈l,zAP a.name=true∧okT a.value=true∧okT a.space=true)∧(l.map key).Nodup∧l.length≤16:=by
 unfold zDN;rw [Bool.and_eq_true,Bool.and_eq_true,decide_eq_true_eq,decide_eq_true_eq,List.all_eq_true,and_assoc];refine and_congr ⟨fun h a ha=>?_,fun h a ha=>?_⟩ Iff.rfl
 · have:=h a ha
   unfold atOk at this;rw [Bool.and_eq_true,Bool.and_eq_true] at this;exact ⟨this.1.1,this.1.2,this.2⟩
 · unfold atOk
   rw [(h a ha).1,(h a ha).2.1,(h a ha).2.2];rfl
section gen
variable {ε ι:Type} {f:ε→Nd→Nd × Bool} {dn:ε→Nd→ε} {f2:ι→Nd→Nd × Bool} {dn2:ι→Nd→ι}
theorem zEB {d:Nat} (hd:∀l r e,zAE d l=some r→(zAK f dn d e l).2=r∧(zAK f dn d e l).1.1.length+r.length=l.length) (e:ε):∀(k:Nat) (b:Bool) (l:List Nd) (b':Bool) (r:List Nd),zAG (zAE d) k b l=some (b',r)→(zAb (zAK f dn d e) k l).2=r∧(zAb (zAK f dn d e) k l).1.1.length+r.length=l.length:=by
 intro k
 induction k with
 | zero =>
  intro b l b' r h;rw [zAG] at h;obtain ⟨rfl,rfl⟩:=(Prod.mk.injEq _ _ _ _).mp (Option.some.inj h);rw [zAb];exact ⟨rfl,by simp⟩
 | succ k ih =>
  intro b l b' r h
  cases l with
  | nil=>rw [zAG] at h;cases h
  | cons n l =>
   rw [zAG] at h
   by_cases hb:b=true∧n.kind=2
   · rw [if_pos hb] at h;cases h
   · rw [if_neg hb] at h
     cases hn:zAE d (n::l) with
     | none=>rw [hn] at h;cases h
     | some y =>
      rw [hn] at h;obtain ⟨h1,h2⟩:=hd _ _ e hn;obtain ⟨h3,h4⟩:=ih _ _ _ _ h;rw [zAb,h1];refine ⟨h3,?_⟩;show ((zAK f dn d e (n::l)).1.1++(zAb (zAK f dn d e) k y).1.1).length+r.length=_;rw [List.length_append]
      omega
theorem zBC:∀(d:Nat) (l r:List Nd) (e:ε),zAE d l=some r→(zAK f dn d e l).2=r∧(zAK f dn d e l).1.1.length+r.length=l.length:=by
 intro d
 induction d with
 | zero =>
  intro l r e h
  cases l with
  | nil=>rw [zAE] at h;cases h
  | cons n l =>
   rw [zAE] at h
   by_cases hn:ndOk n=true∧n.kind=2
   · rw [if_pos hn] at h
     injection h with h;subst h;rw [zAK];exact ⟨rfl,by simp;omega⟩
   · rw [if_neg hn] at h;cases h
 | succ d ih =>
  intro l r e h
  cases l with
  | nil=>rw [zAE] at h;cases h
  | cons n l =>
   rw [zAE] at h
   by_cases hn:ndOk n=true∧0≤n.many
   · rw [if_pos hn] at h
     cases hk:zAG (zAE d) n.many.toNat false l with
     | none=>rw [hk] at h;cases h
     | some y =>
      rw [hk] at h;obtain ⟨b',y⟩:=y;have h:y=r:=Option.some.inj h;subst h;rw [zAK]
      by_cases h2:n.kind=2
      · rw [if_pos h2]
        have hm:=(zA6 hn.1 h2).1;rw [hm] at hk;have hk:some (false,l)=some (b',y):=hk;obtain ⟨_,rfl⟩:=(Prod.mk.injEq _ _ _ _).mp (Option.some.inj hk);exact ⟨rfl,by simp;omega⟩
      · rw [if_neg h2]
        obtain ⟨h3,h4⟩:=zEB ih (dn e n) _ _ _ _ _ hk;exact ⟨h3,by show ((f e n).1::(zAb (zAK f dn d (dn e n)) n.many.toNat l).1.1).length+y.length=_;rw [List.length_cons,List.length_cons];omega⟩
   · rw [if_neg hn] at h;cases h
structure zOk (f:ε→Nd→Nd × Bool) (dn:ε→Nd→ε) (P:ε→Prop) (Q W:Nd→Prop):Prop where
 one:∀e n,P e→Q n→ndOk n=true→n.kind=1→(f e n).2=true→ndOk (f e n).1=true∧(f e n).1.kind=1∧(f e n).1.many=n.many∧W (f e n).1∧P (dn e n)
 two:∀n,Q n→ndOk n=true→n.kind=2→W n
theorem zI2 {P:ε→Prop} {Q W:Nd→Prop} {d:Nat} (hd:∀l r p e,zAE d l=some r→l=p++r→(∀n∈p,Q n)→P e→(zAK f dn d e l).1.2=true→(∀x,zAE d ((zAK f dn d e l).1.1++x)=some x)∧(∀m∈(zAK f dn d e l).1.1,W m)∧∃n l' m t,l=n::l'∧(zAK f dn d e l).1.1=m::t∧m.kind=n.kind) (e:ε) (hP:P e) :
 ∀(k:Nat) (b:Bool) (l:List Nd) (b':Bool) (r p:List Nd),zAG (zAE d) k b l=some (b',r)→l=p++r→(∀n∈p,Q n)→(zAb (zAK f dn d e) k l).1.2=true→(∀x,zAG (zAE d) k b ((zAb (zAK f dn d e) k l).1.1++x)=some (b',x))∧∀m∈(zAb (zAK f dn d e) k l).1.1,W m:=by
 intro k
 induction k with
 | zero =>
  intro b l b' r p h hp hQ hw;rw [zAG] at h;obtain ⟨rfl,rfl⟩:=(Prod.mk.injEq _ _ _ _).mp (Option.some.inj h);rw [zAb];exact ⟨fun x=>by rw [List.nil_append,zAG],fun m hm=>by cases hm⟩
 | succ k ih =>
  intro b l b' r p h hp hQ hw
  cases l with
  | nil=>rw [zAG] at h;cases h
  | cons n l =>
   rw [zAG] at h
   by_cases hb:b=true∧n.kind=2
   · rw [if_pos hb] at h;cases h
   · rw [if_neg hb] at h
     cases hn:zAE d (n::l) with
     | none=>rw [hn] at h;cases h
     | some y =>
      rw [hn] at h;obtain ⟨q,hq0,hq,_⟩:=zBD d _ _ hn;obtain ⟨p2,hp2,_,_⟩:=zBl (zBD d) _ _ _ _ _ h
      have hpq:p=q++p2:=by
       rw [hq,hp2,←List.append_assoc] at hp;exact (List.append_cancel_right hp).symm
      subst hpq;rw [zAb] at hw ⊢;have hw:((zAK f dn d e (n::l)).1.2&&(zAb (zAK f dn d e) k (zAK f dn d e (n::l)).2).1.2)=true:=hw;rw [Bool.and_eq_true,(zBC d _ _ e hn).1] at hw;obtain ⟨k1,k2,n',l',m,t,e1,e2,e3⟩:=hd _ _ q e hn hq (fun m hm=>hQ m (List.mem_append.2 (.inl hm))) hP hw.1;obtain ⟨j1,j2⟩:=ih _ _ _ _ p2 h hp2 (fun m hm=>hQ m (List.mem_append.2 (.inr hm))) hw.2;injection e1 with e1 _;subst e1;rw [(zBC d _ _ e hn).1];refine ⟨fun x=>?_,fun m hm=>?_⟩
      · have h1:=k1 ((zAb (zAK f dn d e) k y).1.1++x)
        show zAG (zAE d) (k+1) b ((zAK f dn d e (n::l)).1.1++(zAb (zAK f dn d e) k y).1.1++x)=_;rw [List.append_assoc];rw [e2] at h1 ⊢;rw [List.cons_append] at h1 ⊢;rw [zAG,e3,if_neg hb,h1];exact j1 x
      · rcases List.mem_append.1 hm with hm | hm
        · exact k2 m hm
        · exact j2 m hm
theorem zIk {P:ε→Prop} {Q W:Nd→Prop} (hs:zOk f dn P Q W):∀(d:Nat) (l r p:List Nd) (e:ε),zAE d l=some r→l=p++r→(∀n∈p,Q n)→P e→(zAK f dn d e l).1.2=true →
 (∀x,zAE d ((zAK f dn d e l).1.1++x)=some x)∧(∀m∈(zAK f dn d e l).1.1,W m)∧∃n l' m t,l=n::l'∧(zAK f dn d e l).1.1=m::t∧m.kind=n.kind:=by
 intro d
 induction d with
 | zero =>
  intro l r p e h hp hQ hP hw
  cases l with
  | nil=>rw [zAE] at h;cases h
  | cons n l =>
   rw [zAE] at h
   by_cases hn:ndOk n=true∧n.kind=2
   · rw [if_pos hn] at h
     injection h with h;subst h
     have hpn:n∈p:=by
      cases p with
      | nil=>have:=congrArg List.length hp;simp at this
      | cons a p=>injection hp with h1 _;rw [h1];exact List.mem_cons_self
     rw [zAK];refine ⟨fun x=>by rw [List.singleton_append,zAE,if_pos hn],fun m hm=>?_,n,l,n,[],rfl,rfl,rfl⟩;obtain rfl:=List.mem_singleton.1 hm;exact hs.two _ (hQ _ hpn) hn.1 hn.2
   · rw [if_neg hn] at h;cases h
 | succ d ih =>
  intro l r p e h hp hQ hP hw
  cases l with
  | nil=>rw [zAE] at h;cases h
  | cons n l =>
   rw [zAE] at h
   by_cases hn:ndOk n=true∧0≤n.many
   · rw [if_pos hn] at h
     cases hk:zAG (zAE d) n.many.toNat false l with
     | none=>rw [hk] at h;cases h
     | some y =>
      rw [hk] at h;obtain ⟨b',y⟩:=y;have h:y=r:=Option.some.inj h;subst h;obtain ⟨p2,hp2,_,_⟩:=zBl (zBD d) _ _ _ _ _ hk
      have hpq:p=n::p2:=by
       rw [hp2,←List.cons_append] at hp;exact (List.append_cancel_right hp).symm
      subst hpq;have hQn:=hQ n List.mem_cons_self;rw [zAK] at hw ⊢
      by_cases h2:n.kind=2
      · rw [if_pos h2] at hw ⊢
        refine ⟨fun x=>?_,fun m hm=>?_,n,l,n,[],rfl,rfl,rfl⟩
        · rw [List.singleton_append,zAE,if_pos hn,(zA6 hn.1 h2).1]
          rfl
        · obtain rfl:=List.mem_singleton.1 hm
          exact hs.two _ hQn hn.1 h2
      · rw [if_neg h2] at hw ⊢
        have h1:n.kind=1:=(zBX hn.1).resolve_right h2;have hw:((f e n).2&&(zAb (zAK f dn d (dn e n)) n.many.toNat l).1.2)=true:=hw;rw [Bool.and_eq_true] at hw;obtain ⟨g1,g2,g3,g4,g5⟩:=hs.one e n hP hQn hn.1 h1 hw.1;obtain ⟨j1,j2⟩:=zI2 ih (dn e n) g5 _ _ _ _ _ p2 hk hp2 (fun m hm=>hQ m (List.mem_cons_of_mem _ hm)) hw.2;refine ⟨fun x=>?_,fun m hm=>?_,n,l,_,_,rfl,rfl,by rw [g2,h1]⟩
        · show zAE (d+1) (((f e n).1::(zAb (zAK f dn d (dn e n)) n.many.toNat l).1.1)++x)=_
          rw [List.cons_append,zAE,g3,if_pos ⟨g1,hn.2⟩,j1]
          rfl
        · rcases List.mem_cons.1 hm with rfl | hm
          · exact g4
          · exact j2 m hm
   · rw [if_neg hn] at h;cases h
structure Undo (f:ε→Nd→Nd × Bool) (dn:ε→Nd→ε) (f2:ι→Nd→Nd × Bool) (dn2:ι→Nd→ι) (R:ε→ι→Prop) (Q:Nd→Prop):Prop where
 one:∀e i n,R e i→Q n→ndOk n=true→n.kind=1→(f e n).2=true→(f e n).1.kind=1∧(f e n).1.many=n.many∧f2 i (f e n).1=(n,true)∧R (dn e n) (dn2 i (f e n).1)
theorem zKS {R:ε→ι→Prop} {Q:Nd→Prop} {d:Nat} (hd:∀l r p e i,zAE d l=some r→l=p++r→(∀n∈p,Q n)→R e i→(zAK f dn d e l).1.2=true→∀x,zAK f2 dn2 d i ((zAK f dn d e l).1.1++x)=((p,true),x)) (e:ε) (i:ι) (hR:R e i) :
 ∀(k:Nat) (b:Bool) (l:List Nd) (b':Bool) (r p:List Nd),zAG (zAE d) k b l=some (b',r)→l=p++r→(∀n∈p,Q n)→(zAb (zAK f dn d e) k l).1.2=true→∀x,zAb (zAK f2 dn2 d i) k ((zAb (zAK f dn d e) k l).1.1++x)=((p,true),x):=by
 intro k
 induction k with
 | zero =>
  intro b l b' r p h hp hQ hw x;rw [zAG] at h;obtain ⟨rfl,rfl⟩:=(Prod.mk.injEq _ _ _ _).mp (Option.some.inj h);have:p=[]:=by have:=congrArg List.length hp;rw [List.length_append] at this;exact List.eq_nil_of_length_eq_zero (by omega)
  subst this
  rfl
 | succ k ih =>
  intro b l b' r p h hp hQ hw x
  cases l with
  | nil=>rw [zAG] at h;cases h
  | cons n l =>
   rw [zAG] at h
   by_cases hb:b=true∧n.kind=2
   · rw [if_pos hb] at h;cases h
   · rw [if_neg hb] at h
     cases hn:zAE d (n::l) with
     | none=>rw [hn] at h;cases h
     | some y =>
      rw [hn] at h;obtain ⟨q,hq0,hq,_⟩:=zBD d _ _ hn;obtain ⟨p2,hp2,_,_⟩:=zBl (zBD d) _ _ _ _ _ h
      have hpq:p=q++p2:=by
       rw [hq,hp2,←List.append_assoc] at hp;exact (List.append_cancel_right hp).symm
      subst hpq;rw [zAb] at hw;have hw:((zAK f dn d e (n::l)).1.2&&(zAb (zAK f dn d e) k (zAK f dn d e (n::l)).2).1.2)=true:=hw;rw [Bool.and_eq_true,(zBC d _ _ e hn).1] at hw;have k1:=hd _ _ q e i hn hq (fun m hm=>hQ m (List.mem_append.2 (.inl hm))) hR hw.1;have j1:=ih _ _ _ _ p2 h hp2 (fun m hm=>hQ m (List.mem_append.2 (.inr hm))) hw.2 x;have e1:(zAb (zAK f dn d e) (k+1) (n::l)).1.1=(zAK f dn d e (n::l)).1.1++(zAb (zAK f dn d e) k y).1.1:=by rw [zAb,(zBC d _ _ e hn).1]
      rw [e1,List.append_assoc,zAb,k1,j1]
      rfl
theorem zK6 {R:ε→ι→Prop} {Q:Nd→Prop} (hu:Undo f dn f2 dn2 R Q):∀(d:Nat) (l r p:List Nd) (e:ε) (i:ι),zAE d l=some r→l=p++r→(∀n∈p,Q n)→R e i→(zAK f dn d e l).1.2=true→∀x,zAK f2 dn2 d i ((zAK f dn d e l).1.1++x)=((p,true),x):=by
 intro d
 induction d with
 | zero =>
  intro l r p e i h hp hQ hR hw x
  cases l with
  | nil=>rw [zAE] at h;cases h
  | cons n l =>
   rw [zAE] at h
   by_cases hn:ndOk n=true∧n.kind=2
   · rw [if_pos hn] at h
     injection h with h;subst h
     have hpn:p=[n]:=by
      rw [←List.singleton_append] at hp;exact (List.append_cancel_right hp).symm
     subst hpn;rw [zAK,List.singleton_append,zAK]
   · rw [if_neg hn] at h;cases h
 | succ d ih =>
  intro l r p e i h hp hQ hR hw x
  cases l with
  | nil=>rw [zAE] at h;cases h
  | cons n l =>
   rw [zAE] at h
   by_cases hn:ndOk n=true∧0≤n.many
   · rw [if_pos hn] at h
     cases hk:zAG (zAE d) n.many.toNat false l with
     | none=>rw [hk] at h;cases h
     | some y =>
      rw [hk] at h;obtain ⟨b',y⟩:=y;have h:y=r:=Option.some.inj h;subst h;obtain ⟨p2,hp2,_,_⟩:=zBl (zBD d) _ _ _ _ _ hk
      have hpq:p=n::p2:=by
       rw [hp2,←List.cons_append] at hp;exact (List.append_cancel_right hp).symm
      subst hpq;have hQn:=hQ n List.mem_cons_self;rw [zAK] at hw ⊢
      by_cases h2:n.kind=2
      · rw [if_pos h2,List.singleton_append,zAK,if_pos h2]
        rw [(zA6 hn.1 h2).1] at hk;have hk:some (false,l)=some (b',y):=hk;obtain ⟨_,rfl⟩:=(Prod.mk.injEq _ _ _ _).mp (Option.some.inj hk);have:p2=[]:=by have:=congrArg List.length hp2;rw [List.length_append] at this;exact List.eq_nil_of_length_eq_zero (by omega)
        rw [this]
      · rw [if_neg h2] at hw ⊢
        have h1:n.kind=1:=(zBX hn.1).resolve_right h2;have hw:((f e n).2&&(zAb (zAK f dn d (dn e n)) n.many.toNat l).1.2)=true:=hw;rw [Bool.and_eq_true] at hw;obtain ⟨g1,g2,g3,g4⟩:=hu.one e i n hR hQn hn.1 h1 hw.1;have j1:=zKS ih (dn e n) (dn2 i (f e n).1) g4 _ _ _ _ _ p2 hk hp2 (fun m hm=>hQ m (List.mem_cons_of_mem _ hm)) hw.2 x;show zAK f2 dn2 (d+1) i (((f e n).1::(zAb (zAK f dn d (dn e n)) n.many.toNat l).1.1)++x)=_;rw [List.cons_append,zAK,if_neg (by rw [g1];decide),g2,j1,g3]
        rfl
   · rw [if_neg hn] at h;cases h
end gen
end Ns
end Go.Proofs.YtlgppednjkbgiaaGreatDoor
