/-
  Texts of one seat, put together: SpaN, MemC, LexC, MemV, MapA, MemD.
-/
import Derived.Test.YtlgppednjkbgiaaGreatDoorMiA
import Derived.Test.YtlgppednjkbgiaaGreatDoorMi01
import Derived.Test.YtlgppednjkbgiaaGreatDoorMi00
import Derived.Deep.Slices
import Derived.Laws.Rows
import Derived.Laws.Tables
import Derived.MapKept
set_option maxRecDepth 100000
set_option maxHeartbeats 16000000
set_option linter.unusedVariables false
namespace Go.Proofs.YtlgppednjkbgiaaGreatDoor
open Go.RowKit Go.Proofs.Tryz
namespace Ns
open Lx Tr Tx Nmb Es
def zAQ:List UInt8:=[120,109,108,110,115]
def xml3:List UInt8:=[120,109,108]
def zAt:List UInt8:=[104,116,116,112,58,47,47,119,119,119,46,119,51,46,111,114,103,47,88,77,76,47,49,57,57,56,47,110,97,109,101,115,112,97,99,101]
def zAb:List UInt8:=[104,116,116,112,58,47,47,119,119,119,46,119,51,46,111,114,103,47,50,48,48,48,47,120,109,108,110,115,47]
def decl (nm:List UInt8):Option (List UInt8):=match cutC nm with
 | some (a,b)=>if a=zAQ then some b else none
 | none=>if nm=zAQ then some [] else none
def zB2 (p v:List UInt8):Bool:=if p=xml3 then decide (v=zAt) else decide (p≠zAQ)&&decide (v≠zAt)&&decide (v≠zAb)&&(decide (p=[])||decide (v≠[]))
def zBb:List At→List UInt8→Option (List UInt8)
 | [],_=>none
 | a::l,p=>if decl a.name=some p then some a.value else zBb l p
def zA1:List (List At)→List UInt8→List UInt8 × Bool
 | [],p=>if p=xml3 then (zAt,true) else ([],decide (p=[]))
 | l::E,p=>match zBb l p with
  | some v=>(v,true)
  | none=>zA1 E p
def zHR (nm:List UInt8):List UInt8 × List UInt8:=match cutC nm with
 | some x=>x
 | none=>([],nm)
def atE (E:List (List At)) (a:At):At × Bool:=match cutC a.name with
 | some (x,y)=>(⟨(zA1 E x).1,y,a.value⟩,(zA1 E x).2)
 | none=>(⟨[],a.name,a.value⟩,true)
def hasK (l:List At) (a:At):Bool:=l.any fun b=>decide (key b=key a)
def atsE (E:List (List At)):List At→List At→List At × Bool
 | acc,[]=>(acc,true)
 | acc,a::l=>match decl a.name with
  | some p=>((atsE E acc l).1,zB2 p a.value&&(atsE E acc l).2)
  | none=>((atsE E (acc++[(atE E a).1]) l).1,((atE E a).2&& !hasK acc (atE E a).1)&&(atsE E (acc++[(atE E a).1]) l).2)
def ndE (E:List (List At)) (n:Nd):Nd × Bool:=(⟨1,(zA1 E (zHR n.name).1).1,(zHR n.name).2,(atsE E [] n.attrs).1,[],n.many⟩,(zA1 E (zHR n.name).1).2&&(atsE E [] n.attrs).2)
def resF (E:List (List At)) (n:Nd):Nd × Bool:=ndE (n.attrs::E) n
def zBg (E:List (List At)) (n:Nd):List (List At):=n.attrs::E
def resW (v:List Nd):(List Nd × Bool) × List Nd:=zAH resF zBg 12 [] v
def zA7 (v:List Nd):List Nd × Int:=if mayV v=true∧rawV v=true then (if (resW v).1.2=true then ((resW v).1.1,0) else ([],110)) else ([],8)
def zD3 (a:At):Bool:=zBG a.name&& !(decide (a.space=[])&&decide (a.name=zAQ))&&decide (a.space≠zAb)
def zCM (n:Nd):Bool:=(decide (n.kind≠1)||zBG n.name)&&decide (n.space≠zAt)&&decide (n.space≠zAb)&&n.attrs.all zD3
def mayS (v:List Nd):Bool:=v.all zCM&&mayV v
def zEH (v:List Nd):Int:=if mayS v=true then 0 else 8
def zAm:List (List UInt8)→List At→List (List UInt8)
 | acc,[]=>acc
 | acc,a::l=>if a.space=[]∨a.space=zAt∨a.space∈acc then zAm acc l else zAm (acc++[a.space]) l
def zBf (i:Nat):List UInt8:=110::dg (i+1)
def zBD (S:List (List UInt8)) (a:At):At :=
 if a.space=[] then ⟨[],a.name,a.value⟩ else if a.space=zAt then ⟨[],xml3++58::a.name,a.value⟩ else ⟨[],zBf (S.idxOf a.space)++58::a.name,a.value⟩
def numD:Nat→List (List UInt8)→List At
 | _,[]=>[]
 | i,s::S=>⟨[],zAQ++58::zBf i,s⟩::numD (i+1) S
def ownD (outer:List UInt8) (n:Nd):List At:=if n.space=outer then [] else [⟨[],zAQ,n.space⟩]
def zBC (outer:List UInt8) (n:Nd):List At:=ownD outer n++(numD 0 (zAm [] n.attrs)++n.attrs.map (zBD (zAm [] n.attrs)))
def zCd (outer:List UInt8) (n:Nd):Nd:=⟨1,[],n.name,zBC outer n,[],n.many⟩
def zBL (outer:List UInt8) (n:Nd):Nd × Bool:=(zCd outer n,decide ((zBC outer n).length≤16))
def zAg (outer:List UInt8) (n:Nd):List UInt8:=n.space
def zCq (v:List Nd) (outer:List UInt8):(List Nd × Bool) × List Nd:=zAH zBL zAg 12 outer v
def zB5 (v:List Nd) (outer:List UInt8):List Nd × Int:=if mayS v=true∧okT outer=true∧outer≠zAt∧outer≠zAb then (if (zCq v outer).1.2=true then ((zCq v outer).1.1,0) else ([],4)) else ([],8)
theorem zCN:∀{a b:List UInt8},(58:UInt8)∉a→cutC (a++58::b)=some (a,b)
 | [],b,_=>by rw [List.nil_append,cutC,if_pos rfl]
 | c::a,b,h=>by
  rw [List.mem_cons,not_or] at h;rw [List.cons_append,cutC,if_neg (Ne.symm h.1),zCN h.2]
  rfl
theorem zJd:∀{l:List UInt8},(58:UInt8)∉l→cutC l=none
 | [],_=>rfl
 | c::l,h=>by
  rw [List.mem_cons,not_or] at h;rw [cutC,if_neg (Ne.symm h.1),zJd h.2]
  rfl
theorem zCP {l:List UInt8} (h:zBG l=true):(58:UInt8)∉l:=fun hm=>by
 have:=zDf h 58 hm
 revert this
 decide
theorem zCw {l:List UInt8} (h:zBG l=true):cutC l=none:=zJd (zCP h)
theorem zC5 {l:List UInt8} (h:zBG l=true):zAO l=true:=by
 unfold zAO;rw [zCw h];exact h
theorem zGH {a b:List UInt8} (ha:zBG a=true) (hb:zBG b=true):zAO (a++58::b)=true:=by
 unfold zAO;rw [zCN (zCP ha)]
 simp [ha,hb]
theorem zOP {c:UInt8} (h:isDg c=true):nch c=true:=by
 unfold isDg at h;unfold nch;rw [h]
 simp
theorem zC9 (i:Nat):zBG (zBf i)=true:=by
 unfold zBf zBG;rw [Bool.and_eq_true];refine ⟨by decide,List.all_eq_true.2 fun c hc=>zOP (List.all_eq_true.1 (zLl _) c hc)⟩
theorem zHc {i j:Nat} (h:zBf i=zBf j):i=j:=by
 unfold zBf at h;injection h with _ h;have:=zRH h
 omega
theorem zDj (i:Nat):zBf i≠[]∧zBf i≠xml3∧zBf i≠zAQ:=by
 unfold zBf xml3 zAQ;refine ⟨fun h=>(by cases h),fun h=>?_,fun h=>?_⟩ <;>
 · injection h with h _
   revert h
   decide
theorem zCA:zBG zAQ=true:=by decide +kernel
theorem zGl:zBG xml3=true:=by decide +kernel
theorem zDZ:decl zAQ=some []:=by decide +kernel
theorem zEW (p:List UInt8):decl (zAQ++58::p)=some p:=by
 unfold decl;rw [zCN (zCP zCA)]
 simp
theorem zFi {a b:List UInt8} (h:zBG a=true) (hne:a≠zAQ):decl (a++58::b)=none:=by
 unfold decl;rw [zCN (zCP h)]
 simp [hne]
theorem zHP {a:At}:zD3 a=true↔zBG a.name=true∧(a.space=[]→a.name≠zAQ)∧a.space≠zAb:=by
 unfold zD3;simp only [Bool.and_eq_true,Bool.not_eq_true',Bool.and_eq_false_iff,decide_eq_true_eq,decide_eq_false_iff_not,and_assoc];refine and_congr Iff.rfl (and_congr ⟨fun h e=>?_,fun h=>?_⟩ Iff.rfl)
 · rcases h with h | h
   · exact absurd e h
   · exact h
 · by_cases e:a.space=[]
   · exact .inr (h e)
   · exact .inl e
theorem zCY {n:Nd}:zCM n=true↔(n.kind=1→zBG n.name=true)∧n.space≠zAt∧n.space≠zAb∧∀a∈n.attrs,zBG a.name=true∧(a.space=[]→a.name≠zAQ)∧a.space≠zAb:=by
 unfold zCM;simp only [Bool.and_eq_true,Bool.or_eq_true,decide_eq_true_eq,and_assoc,List.all_eq_true];refine and_congr ⟨fun h e=>?_,fun h=>?_⟩ (and_congr Iff.rfl (and_congr Iff.rfl ⟨fun h a ha=>zHP.1 (h a ha),fun h a ha=>zHP.2 (h a ha)⟩))
 · rcases h with h | h
   · exact absurd e h
   · exact h
 · by_cases e:n.kind=1
   · exact .inr (h e)
   · exact .inl e
theorem zBv:∀(l m:List At) (p:List UInt8),zBb (l++m) p=match zBb l p with | some v=>some v | none=>zBb m p
 | [],m,p=>rfl
 | a::l,m,p=>by
  rw [List.cons_append,zBb,zBb]
  by_cases h:decl a.name=some p
  · rw [if_pos h,if_pos h]
  · rw [if_neg h,if_neg h]
    exact zBv l m p
theorem zDY:∀{l:List At} {p:List UInt8},(∀a∈l,decl a.name≠some p)→zBb l p=none
 | [],p,_=>rfl
 | a::l,p,h=>by
  rw [zBb,if_neg (h a List.mem_cons_self)];exact zDY fun b hb=>h b (List.mem_cons_of_mem _ hb)
theorem zEx:∀{l:List At} {p v:List UInt8},zBb l p=some v→∃a∈l,decl a.name=some p∧a.value=v
 | [],p,v,h=>by cases h
 | a::l,p,v,h=>by
  rw [zBb] at h
  by_cases hd:decl a.name=some p
  · rw [if_pos hd] at h
    exact ⟨a,List.mem_cons_self,hd,Option.some.inj h⟩
  · rw [if_neg hd] at h
    obtain ⟨b,hb,h1⟩:=zEx h;exact ⟨b,List.mem_cons_of_mem _ hb,h1⟩
theorem zCk:∀{i:Nat} {S:List (List UInt8)} {a:At},a∈numD i S→∃(j:Nat) (hj:j < S.length),a=⟨[],zAQ++58::zBf (i+j),S[j]⟩
 | _,[],a,h=>by cases h
 | i,s::S,a,h=>by
  rw [numD] at h;rcases List.mem_cons.1 h with rfl | h
  · exact ⟨0,by simp,rfl⟩
  · obtain ⟨j,hj,e⟩:=zCk h
    exact ⟨j+1,by simp;omega,by rw [e];simp;congr 1;omega⟩
theorem zC7:∀(i:Nat) (S:List (List UInt8)),(numD i S).length=S.length
 | _,[]=>rfl
 | i,s::S=>by rw [numD,List.length_cons,zC7,List.length_cons]
theorem zHA:∀(i:Nat) (S:List (List UInt8)) (j:Nat) (hj:j < S.length),zBb (numD i S) (zBf (i+j))=some S[j]
 | _,[],j,hj=>absurd hj (Nat.not_lt_zero _)
 | i,s::S,0,_=>by rw [numD,zBb];exact if_pos (zEW (zBf i))
 | i,s::S,j+1,hj=>by
  rw [numD,zBb,if_neg]
  · have:=zHA (i+1) S j (by simpa using hj)
    rw [show i+1+j=i+(j+1) by omega] at this;rw [this]
    rfl
  · rw [zEW]
    intro h;have:=zHc (Option.some.inj h)
    omega
theorem zBP:∀(l:List At) (acc:List (List UInt8)),(∀s∈acc,s∈zAm acc l)∧(∀a∈l,a.space≠[]→a.space≠zAt→a.space∈zAm acc l)∧∀s∈zAm acc l,s∈acc∨∃a∈l,a.space=s∧s≠[]∧s≠zAt
 | [],acc=>⟨fun s h=>h,(fun a h=>by cases h),fun s h=>.inl h⟩
 | a::l,acc=>by
  rw [zAm]
  by_cases h:a.space=[]∨a.space=zAt∨a.space∈acc
  · rw [if_pos h]
    obtain ⟨h1,h2,h3⟩:=zBP l acc;refine ⟨h1,fun b hb k1 k2=>?_,fun s hs=>?_⟩
    · rcases List.mem_cons.1 hb with rfl | hb
      · rcases h with h | h | h
        · exact absurd h k1
        · exact absurd h k2
        · exact h1 _ h
      · exact h2 b hb k1 k2
    · rcases h3 s hs with k | ⟨b,hb,k⟩
      · exact .inl k
      · exact .inr ⟨b,List.mem_cons_of_mem _ hb,k⟩
  · rw [if_neg h]
    obtain ⟨h1,h2,h3⟩:=zBP l (acc++[a.space]);refine ⟨fun s hs=>h1 s (List.mem_append.2 (.inl hs)),fun b hb k1 k2=>?_,fun s hs=>?_⟩
    · rcases List.mem_cons.1 hb with rfl | hb
      · exact h1 _ (List.mem_append.2 (.inr (List.mem_singleton.2 rfl)))
      · exact h2 b hb k1 k2
    · rcases h3 s hs with k | ⟨b,hb,k⟩
      · rcases List.mem_append.1 k with k | k
        · exact .inl k
        · obtain rfl:=List.mem_singleton.1 k
          exact .inr ⟨a,List.mem_cons_self,rfl,fun e=>h (.inl e),fun e=>h (.inr (.inl e))⟩
      · exact .inr ⟨b,List.mem_cons_of_mem _ hb,k⟩
theorem zDy (S:List (List UInt8)) {a:At} (h:zBG a.name=true∧(a.space=[]→a.name≠zAQ)∧a.space≠zAb):decl (zBD S a).name=none:=by
 unfold zBD
 by_cases h1:a.space=[]
 · rw [if_pos h1]
   show decl a.name=none;unfold decl;rw [zCw h.1];exact if_neg (h.2.1 h1)
 · rw [if_neg h1]
   by_cases h2:a.space=zAt
   · rw [if_pos h2]
     exact zFi zGl (by decide)
   · rw [if_neg h2]
     exact zFi (zC9 _) (zDj _).2.2
theorem zHO (outer:List UInt8) (n:Nd) (E:List (List At)) (hn:∀a∈n.attrs,zBG a.name=true∧(a.space=[]→a.name≠zAQ)∧a.space≠zAb) (h0:zA1 E []=(outer,true)) (h3:zA1 E xml3=(zAt,true)) :
 zA1 (zBC outer n::E) []=(n.space,true)∧zA1 (zBC outer n::E) xml3=(zAt,true)∧∀i (hi:i < (zAm [] n.attrs).length),zA1 (zBC outer n::E) (zBf i)=((zAm [] n.attrs)[i],true):=by
 obtain ⟨S,hS⟩:∃S,zAm [] n.attrs=S:=⟨_,rfl⟩
 have hZ:∀p,zBb (n.attrs.map (zBD S)) p=none:=fun p=>zDY fun b hb=>by
  obtain ⟨a,ha,rfl⟩:=List.mem_map.1 hb;rw [zDy S (hn a ha)];intro h
  cases h
 have hY:∀p,(∀j,p≠zBf j)→zBb (numD 0 S) p=none:=fun p hp=>zDY fun b hb=>by
  obtain ⟨j,hj,rfl⟩:=zCk hb;rw [zEW];intro h;exact hp _ (Option.some.inj h).symm
 have hX:∀p,p≠[]→zBb (ownD outer n) p=none:=fun p hp=>zDY fun b hb=>by
  unfold ownD at hb
  by_cases hs:n.space=outer
  · rw [if_pos hs] at hb;cases hb
  · rw [if_neg hs] at hb
    obtain rfl:=List.mem_singleton.1 hb;rw [zDZ];intro h;exact hp (Option.some.inj h).symm
 unfold zBC;rw [hS];refine ⟨?_,?_,fun i hi=>?_⟩
 · rw [zA1,zBv,zBv,hZ,hY [] (fun j=>(zDj j).1.symm)]
   unfold ownD
   by_cases hs:n.space=outer
   · rw [if_pos hs,hs]
     exact h0
   · rw [if_neg hs,zBb,if_pos zDZ]
 · rw [zA1,zBv,zBv,hZ,hY xml3 (fun j=>(zDj j).2.1.symm),hX xml3 (by decide)]
   exact h3
 · rw [zA1,zBv,zBv,hX _ (zDj i).1]
   have:=zHA 0 S i hi;rw [Nat.zero_add] at this;rw [this]
theorem zGx (outer:List UInt8) (n:Nd) (E:List (List At)) (hn:∀a∈n.attrs,zBG a.name=true∧(a.space=[]→a.name≠zAQ)∧a.space≠zAb) (h0:zA1 E []=(outer,true)) (h3:zA1 E xml3=(zAt,true)) (a:At) (ha:a∈n.attrs) :
 atE (zBC outer n::E) (zBD (zAm [] n.attrs) a)=(a,true):=by
 obtain ⟨k0,k1,k2⟩:=zHO outer n E hn h0 h3;obtain ⟨_,hm,_⟩:=zBP n.attrs [];obtain ⟨S,hS⟩:∃S,zAm [] n.attrs=S:=⟨_,rfl⟩;rw [hS] at k2 hm ⊢;have hna:=(hn a ha).1;unfold zBD
 by_cases h1:a.space=[]
 · rw [if_pos h1]
   unfold atE;dsimp only;rw [zCw hna]
   cases a
   cases h1
   rfl
 · rw [if_neg h1]
   by_cases h2:a.space=zAt
   · rw [if_pos h2]
     unfold atE;dsimp only;rw [zCN (zCP zGl)];dsimp only;rw [k1]
     cases a
     cases h2
     rfl
   · rw [if_neg h2]
     unfold atE;dsimp only;rw [zCN (zCP (zC9 _))];dsimp only;have hi:S.idxOf a.space < S.length:=List.idxOf_lt_length_of_mem (hm a ha h1 h2);rw [k2 _ hi,List.getElem_idxOf]
theorem zGy (E:List (List At)):∀(D Z acc:List At),(∀a∈D,∃p,decl a.name=some p∧zB2 p a.value=true)→atsE E acc (D++Z)=atsE E acc Z
 | [],Z,acc,_=>rfl
 | a::D,Z,acc,h=>by
  obtain ⟨p,h1,h2⟩:=h a List.mem_cons_self;rw [List.cons_append,atsE,h1];dsimp only;rw [h2,zGy E D Z acc fun b hb=>h b (List.mem_cons_of_mem _ hb),Bool.true_and]
theorem zQL {l:List At} {a:At} (h:∀b∈l,key b≠key a):hasK l a=false:=by
 unfold hasK;rw [List.any_eq_false];intro b hb
 simp [h b hb]
theorem zOJ {l:List At} {a:At}:hasK l a=true↔∃b∈l,key b=key a:=by
 unfold hasK;rw [List.any_eq_true]
 simp
theorem zJU (E:List (List At)) (g:At→At):∀(l acc:List At),(∀a∈l,atE E (g a)=(a,true)∧decl (g a).name=none)→((acc++l).map key).Nodup→atsE E acc (l.map g)=(acc++l,true)
 | [],acc,_,_=>by rw [List.append_nil];rfl
 | a::l,acc,h,hn=>by
  obtain ⟨h1,h2⟩:=h a List.mem_cons_self;rw [List.map_cons,atsE,h2];dsimp only;rw [h1];have hl:acc++a::l=(acc++[a])++l:=by simp
  rw [hl] at hn ⊢;rw [zJU E g l (acc++[a]) (fun b hb=>h b (List.mem_cons_of_mem _ hb)) hn,zQL]
  · rfl
  · intro b hb e
    rw [List.map_append,List.map_append] at hn;have h3:=(List.nodup_append.1 (List.nodup_append.1 hn).1).2.2;exact h3 (key b) (List.mem_map.2 ⟨b,hb,rfl⟩) (key a) (by simp) e
theorem zKt {v:List UInt8} (h1:v≠zAt) (h2:v≠zAb):zB2 [] v=true:=by
 unfold zB2;rw [if_neg (by decide)]
 simp [h1,h2]
 decide
theorem zKs {i:Nat} {v:List UInt8} (h0:v≠[]) (h1:v≠zAt) (h2:v≠zAb):zB2 (zBf i) v=true:=by
 obtain ⟨k1,k2,k3⟩:=zDj i;unfold zB2;rw [if_neg k2]
 simp [h0,h1,h2,k3]
theorem zFg (outer:List UInt8) (n:Nd) (h:zCM n=true):∀a∈ownD outer n++numD 0 (zAm [] n.attrs),∃p,decl a.name=some p∧zB2 p a.value=true:=by
 obtain ⟨_,h1,h2,h3⟩:=zCY.1 h;intro a ha;rcases List.mem_append.1 ha with ha | ha
 · unfold ownD at ha
   by_cases hs:n.space=outer
   · rw [if_pos hs] at ha;cases ha
   · rw [if_neg hs] at ha
     obtain rfl:=List.mem_singleton.1 ha;exact ⟨[],zDZ,zKt h1 h2⟩
 · obtain ⟨j,hj,rfl⟩:=zCk ha
   refine ⟨_,zEW _,?_⟩;rcases (zBP n.attrs []).2.2 _ (List.getElem_mem hj) with k | ⟨b,hb,e,k1,k2⟩
   · cases k
   · exact zKs k1 k2 (by rw [←e];exact (h3 b hb).2.2)
theorem zNe:Undo zBL zAg resF zBg (fun outer E=>zA1 E []=(outer,true)∧zA1 E xml3=(zAt,true)) (fun n=>zCM n=true):=⟨fun outer E n hR hQ hn hk hf=>by
 obtain ⟨q0,q1,q2,q3⟩:=zCY.1 hQ;obtain ⟨k0,k1,_⟩:=zHO outer n E q3 hR.1 hR.2;obtain ⟨o1,o2,o3,o4⟩:=zC6 hn hk;refine ⟨rfl,rfl,?_,k0,k1⟩;show ndE (zBC outer n::E) (zCd outer n)=(n,true)
 have hA:atsE (zBC outer n::E) [] (zBC outer n)=(n.attrs,true):=by
  obtain ⟨E2,hE2⟩:∃E2,zBC outer n::E=E2:=⟨_,rfl⟩;have ha:∀a∈n.attrs,atE E2 (zBD (zAm [] n.attrs) a)=(a,true)∧decl (zBD (zAm [] n.attrs) a).name=none:=fun a ha=>⟨by rw [←hE2];exact zGx outer n E q3 hR.1 hR.2 a ha,zDy _ (q3 a ha)⟩
  rw [hE2];unfold zBC;rw [←List.append_assoc,zGy E2 _ _ _ (zFg outer n hQ)];exact zJU E2 _ n.attrs [] ha (by rw [List.nil_append];exact (zCE.1 o4).2.1)
 unfold ndE;have e1:(zCd outer n).attrs=zBC outer n:=rfl
 have e2:zHR (zCd outer n).name=([],n.name):=by
  unfold zHR;show (match cutC n.name with | some x=>x | none=>([],n.name))=_;rw [zCw (q0 hk)]
 rw [e1,hA,e2];dsimp only;rw [k0]
 cases n
 cases hk
 cases o2
 rfl⟩
theorem zKP (outer:List UInt8) (n:Nd) (h:zCM n=true) (hn:(n.attrs.map key).Nodup):((zBC outer n).map key).Nodup:=by
 obtain ⟨_,_,_,q3⟩:=zCY.1 h;obtain ⟨E,hE⟩:∃E,zBC outer n::[[⟨[],zAQ,outer⟩]]=E:=⟨_,rfl⟩
 have hat:∀a∈n.attrs,atE E (zBD (zAm [] n.attrs) a)=(a,true):=fun a ha=>by
  rw [←hE];exact zGx outer n _ q3 (by rw [zA1,zBb,if_pos zDZ]) (by rw [zA1,zBb,if_neg (by rw [zDZ];decide)];decide +kernel) a ha
 have hks:∀a∈zBC outer n,a.space=[]:=fun a ha=>by
  unfold zBC at ha;rcases List.mem_append.1 ha with ha | ha
  · unfold ownD at ha
    split at ha
    · cases ha
    · obtain rfl:=List.mem_singleton.1 ha;rfl
  · rcases List.mem_append.1 ha with ha | ha
    · obtain ⟨j,hj,rfl⟩:=zCk ha;rfl
    · obtain ⟨b,hb,rfl⟩:=List.mem_map.1 ha
      unfold zBD
      split
      · rfl
      · split <;> rfl
 obtain ⟨S,hS⟩:∃S,zAm [] n.attrs=S:=⟨_,rfl⟩
 have hnum:∀(S:List (List UInt8)) (i:Nat),((numD i S).map key).Nodup:=fun S=>by
  induction S with
  | nil=>intro i;exact List.nodup_nil
  | cons s S ih =>
   intro i;rw [numD,List.map_cons,List.nodup_cons];refine ⟨fun hm=>?_,ih _⟩;obtain ⟨b,hb,e⟩:=List.mem_map.1 hm;obtain ⟨j,hj,rfl⟩:=zCk hb;have e2:=congrArg Prod.snd e;have e2:zAQ++58::zBf (i+1+j)=zAQ++58::zBf i:=e2;have e3:=List.append_cancel_left e2;injection e3 with _ e3;have:=zHc e3
   omega
 have hold:∀a∈n.attrs,∀b,b∈ownD outer n++numD 0 S→key b≠key (zBD S a):=fun a ha b hb e=>by
  have e2:=congrArg Prod.snd e;have e2:b.name=(zBD S a).name:=e2;have hd:=zDy S (q3 a ha);rw [←e2] at hd;rw [←hS] at hb;obtain ⟨p,hp,_⟩:=zFg outer n h b hb;rw [hd] at hp
  cases hp
 unfold zBC;rw [hS] at hat ⊢;rw [←List.append_assoc,List.map_append,List.nodup_append];refine ⟨?_,?_,fun x hx y hy e=>?_⟩
 · rw [List.map_append,List.nodup_append]
   refine ⟨?_,hnum S 0,fun x hx y hy e=>?_⟩
   · unfold ownD
     split
     · exact List.nodup_nil
     · simp
   · obtain ⟨b,hb,rfl⟩:=List.mem_map.1 hx
     obtain ⟨c,hc,rfl⟩:=List.mem_map.1 hy;unfold ownD at hb
     split at hb
     · cases hb
     · obtain rfl:=List.mem_singleton.1 hb
       obtain ⟨j,hj,rfl⟩:=zCk hc;have e2:=congrArg (fun k:List UInt8 × List UInt8=>k.2.length) e
       simp [key] at e2
 · rw [List.map_map]
   have hb:((n.attrs.map (key ∘ zBD S)).map fun k=>key (atE E ⟨[],k.2,[]⟩).1)=n.attrs.map key:=by
    rw [List.map_map];refine List.map_congr_left fun a ha=>?_
    have h1:=hat a ha
    have h2:∀(c:At) (v:List UInt8),key (atE E ⟨[],c.name,v⟩).1=key (atE E c).1:=fun c v=>by
     unfold atE;dsimp only
     split <;> rfl
    show key (atE E ⟨[],(zBD S a).name,[]⟩).1=key a;rw [h2,h1]
   have hn2:=hn;rw [←hb] at hn2;exact (List.pairwise_map.1 hn2).imp fun hne e=>hne (by rw [e])
 · obtain ⟨b,hb,rfl⟩:=List.mem_map.1 hx
   obtain ⟨c,hc,rfl⟩:=List.mem_map.1 hy;obtain ⟨a,ha,rfl⟩:=List.mem_map.1 hc;exact hold a ha b hb e
theorem zOk:okT zAt=true:=by decide +kernel
theorem zDC:zNu zBL zAg (fun _=>True) (fun n=>zCM n=true) (fun n=>rawN n=true):=⟨fun outer n _ hQ hn hk hf=>by
 obtain ⟨q0,q1,q2,q3⟩:=zCY.1 hQ;obtain ⟨o1,o2,o3,o4⟩:=zC6 hn hk;obtain ⟨a1,a2,a3⟩:=zCE.1 o4;have hl:(zBC outer n).length≤16:=of_decide_eq_true hf
 have hall:∀b∈zBC outer n,b.space=[]∧zAO b.name=true∧okT b.value=true:=fun b hb=>by
  unfold zBC at hb;rcases List.mem_append.1 hb with hb | hb
  · unfold ownD at hb
    split at hb
    · cases hb
    · obtain rfl:=List.mem_singleton.1 hb
      exact ⟨rfl,zC5 zCA,o3⟩
  · rcases List.mem_append.1 hb with hb | hb
    · obtain ⟨j,hj,rfl⟩:=zCk hb
      refine ⟨rfl,zGH zCA (zC9 _),?_⟩;rcases (zBP n.attrs []).2.2 _ (List.getElem_mem hj) with k | ⟨c,hc,e,_⟩
      · cases k
      · show okT (zAm [] n.attrs)[j]=true
        rw [←e];exact (a1 c hc).2.2
    · obtain ⟨a,ha,rfl⟩:=List.mem_map.1 hb
      have h1:=(q3 a ha).1;unfold zBD
      split
      · exact ⟨rfl,zC5 h1,(a1 a ha).2.1⟩
      · split
        · exact ⟨rfl,zGH zGl h1,(a1 a ha).2.1⟩
        · exact ⟨rfl,zGH (zC9 _) h1,(a1 a ha).2.1⟩
 refine ⟨zMV o1 zGQ (zCE.2 ⟨fun b hb=>⟨(hall b hb).2.1,(hall b hb).2.2,by rw [(hall b hb).1];exact zGQ⟩,zKP outer n hQ a2,hl⟩),rfl,rfl,?_,trivial⟩;unfold rawN;rw [Bool.and_eq_true,List.all_eq_true];exact ⟨rfl,fun b hb=>by rw [(hall b hb).1];rfl⟩,fun n hQ hn hk=>by
 obtain ⟨_,_,h3,h4,_,_⟩:=zA6 hn hk;unfold rawN;rw [h3,h4]
 rfl⟩
def okE (E:List (List At)):Prop:=∀p,(zA1 E p).2=true→okT (zA1 E p).1=true∧(zA1 E p).1≠zAb∧(p≠[]→(zA1 E p).1≠[])
theorem zQf:okE []:=fun p h=>by
 rw [zA1] at h ⊢
 by_cases h3:p=xml3
 · rw [if_pos h3] at h ⊢
   exact ⟨zOk,by decide,fun _=>by decide⟩
 · rw [if_neg h3] at h ⊢
   exact ⟨zGQ,(by decide:([]:List UInt8)≠zAb),fun hp=>absurd (of_decide_eq_true h) hp⟩
theorem zM3 {p v:List UInt8} (h:zB2 p v=true):v≠zAb∧(p≠[]→v≠[]):=by
 unfold zB2 at h
 by_cases h3:p=xml3
 · rw [if_pos h3] at h
   have:=of_decide_eq_true h;rw [this];exact ⟨by decide,fun _=>by decide⟩
 · rw [if_neg h3] at h
   simp only [Bool.and_eq_true,Bool.or_eq_true,decide_eq_true_eq] at h;exact ⟨h.1.2,fun hp=>h.2.resolve_left hp⟩
theorem zIU (E:List (List At)):∀(l acc:List At),(atsE E acc l).2=true→(acc.map key).Nodup →
 (∀a∈l,∀p,decl a.name=some p→zB2 p a.value=true)∧(∀b∈(atsE E acc l).1,b∈acc∨∃a∈l,decl a.name=none∧(atE E a).2=true∧b=(atE E a).1)∧((atsE E acc l).1.map key).Nodup∧(atsE E acc l).1.length≤acc.length+l.length
 | [],acc,h,hn=>⟨fun a ha=>(by cases ha),fun b hb=>.inl hb,hn,Nat.le_refl _⟩
 | a::l,acc,h,hn=>by
  rw [atsE] at h ⊢
  cases hd:decl a.name with
  | some p =>
   rw [hd] at h;dsimp only at h ⊢;rw [Bool.and_eq_true] at h;obtain ⟨h1,h2,h3,h4⟩:=zIU E l acc h.2 hn;refine ⟨fun b hb q hq=>?_,fun b hb=>?_,h3,by rw [List.length_cons];omega⟩
   · rcases List.mem_cons.1 hb with rfl | hb
     · rw [hd] at hq
       rw [←Option.some.inj hq];exact h.1
     · exact h1 b hb q hq
   · rcases h2 b hb with k | ⟨c,hc,k⟩
     · exact .inl k
     · exact .inr ⟨c,List.mem_cons_of_mem _ hc,k⟩
  | none =>
   rw [hd] at h;dsimp only at h ⊢;rw [Bool.and_eq_true,Bool.and_eq_true] at h
   have hno:∀b∈acc,key b≠key (atE E a).1:=fun b hb e=>by
    have:=h.1.2;rw [zOJ.2 ⟨b,hb,e⟩] at this
    cases this
   obtain ⟨h1,h2,h3,h4⟩:=zIU E l (acc++[(atE E a).1]) h.2 (by
    rw [List.map_append,List.nodup_append];refine ⟨hn,by simp,fun x hx y hy e=>?_⟩;obtain ⟨b,hb,rfl⟩:=List.mem_map.1 hx;obtain rfl:=List.mem_singleton.1 hy;exact hno b hb e)
   refine ⟨fun b hb q hq=>?_,fun b hb=>?_,h3,by rw [List.length_append,List.length_singleton] at h4;rw [List.length_cons];omega⟩
   · rcases List.mem_cons.1 hb with rfl | hb
     · rw [hd] at hq;cases hq
     · exact h1 b hb q hq
   · rcases h2 b hb with k | ⟨c,hc,k⟩
     · rcases List.mem_append.1 k with k | k
       · exact .inl k
       · obtain rfl:=List.mem_singleton.1 k
         exact .inr ⟨a,List.mem_cons_self,hd,h.1.1,rfl⟩
     · exact .inr ⟨c,List.mem_cons_of_mem _ hc,k⟩
def zRk (m:Nd):Prop:=(m.kind=1→zBG m.name=true)∧m.space≠zAb∧∀a∈m.attrs,zBG a.name=true∧(a.space=[]→a.name≠zAQ)∧a.space≠zAb
theorem zE3 {l a b:List UInt8} (h:zAO l=true) (hc:cutC l=some (a,b)):zBG a=true∧zBG b=true:=by
 unfold zAO at h;rw [hc] at h;simp only [Bool.and_eq_true] at h;exact ⟨h.2,h.1⟩
theorem zJk {l:List UInt8} (h:zAO l=true) (hc:cutC l=none):zBG l=true:=by
 unfold zAO at h;rw [hc] at h;exact h
theorem zOl {E:List (List At)} {l:List At} (h:okE E) (h1:∀a∈l,∀p,decl a.name=some p→zB2 p a.value=true) (h2:∀a∈l,okT a.value=true):okE (l::E):=fun p hp=>by
 rw [zA1] at hp ⊢
 cases hd:zBb l p with
 | none=>rw [hd] at hp;exact h p hp
 | some v =>
  obtain ⟨a,ha,k1,rfl⟩:=zEx hd;obtain ⟨j1,j2⟩:=zM3 (h1 a ha p k1);exact ⟨h2 a ha,j1,j2⟩
theorem zNF:zNu resF zBg okE (fun _=>True) zRk:=⟨fun E n hP _ hn hk hf=>by
 obtain ⟨o1,o2,o3,o4⟩:=zC6 hn hk;obtain ⟨a1,a2,a3⟩:=zCE.1 o4;have hf:((zA1 (n.attrs::E) (zHR n.name).1).2&&(atsE (n.attrs::E) [] n.attrs).2)=true:=hf;rw [Bool.and_eq_true] at hf;obtain ⟨k1,k2,k3,k4⟩:=zIU (n.attrs::E) n.attrs [] hf.2 List.nodup_nil;have hE2:okE (n.attrs::E):=zOl hP k1 fun a ha=>(a1 a ha).2.1
 have hnm:zBG (zHR n.name).2=true:=by
  unfold zHR
  cases hc:cutC n.name with
  | none=>exact zJk o1 hc
  | some x=>exact (zE3 (a:=x.1) (b:=x.2) o1 hc).2
 obtain ⟨s1,s2,_⟩:=hE2 _ hf.1
 have hb:∀b∈(atsE (n.attrs::E) [] n.attrs).1,zBG b.name=true∧(b.space=[]→b.name≠zAQ)∧b.space≠zAb∧okT b.value=true∧okT b.space=true:=fun b hb=>by
  rcases k2 b hb with k | ⟨a,ha,hd,ht,rfl⟩
  · cases k
  · unfold atE at ht ⊢
    cases hc:cutC a.name with
    | none =>
     refine ⟨zJk (a1 a ha).1 hc,fun _ e=>?_,(by decide:([]:List UInt8)≠zAb),(a1 a ha).2.1,zGQ⟩;unfold decl at hd;rw [hc] at hd;dsimp only at hd e;rw [if_pos e] at hd
     cases hd
    | some x =>
     obtain ⟨x,y⟩:=x;rw [hc] at ht;dsimp only at ht ⊢;obtain ⟨j1,j2⟩:=zE3 (a1 a ha).1 hc;obtain ⟨t1,t2,t3⟩:=hE2 x ht;exact ⟨j2,fun e=>absurd e (t3 (fun e=>by rw [e] at j1;cases j1)),t2,(a1 a ha).2.1,t1⟩
 refine ⟨zMV (zC5 hnm) s1 (zCE.2 ⟨fun b h=>⟨zC5 (hb b h).1,(hb b h).2.2.2.1,(hb b h).2.2.2.2⟩,k3,?_⟩),rfl,rfl,⟨fun _=>hnm,s2,fun b h=>⟨(hb b h).1,(hb b h).2.1,(hb b h).2.2.1⟩⟩,hE2⟩;have h0:([]:List At).length=0:=rfl
 omega,fun n _ hn hk=>by
 obtain ⟨_,_,h3,h4,_,_⟩:=zA6 hn hk;refine ⟨fun e=>by omega,by rw [h3];decide,fun a ha=>?_⟩;rw [h4] at ha
 cases ha⟩
theorem zEk {ε:Type} {f:ε→Nd→Nd × Bool} {dn:ε→Nd→ε} {P:ε→Prop} {Q W:Nd→Prop} (hs:zNu f dn P Q W) {v:List Nd} {e:ε} (hv:mayV v=true) (hQ:∀n∈v,Q n) (hP:P e) (hw:(zAH f dn 12 e v).1.2=true):mayV (zAH f dn 12 e v).1.1=true∧(zAH f dn 12 e v).1.1.length=v.length∧∀m∈(zAH f dn 12 e v).1.1,W m:=by
 obtain ⟨h1,⟨n,l,rfl,hk⟩,h3⟩:=zAj.1 hv;obtain ⟨k1,k2,n',l',m,t,e1,e2,e3⟩:=zFV hs 12 _ [] (n::l) e h3 (by rw [List.append_nil]) hQ hP hw;have hl:=(zAv (f:=f) (dn:=dn) 12 _ _ e h3).2;have h0:([]:List Nd).length=0:=rfl;injection e1 with e1 _;subst e1;refine ⟨zAj.2 ⟨by omega,⟨m,t,e2,by rw [e3,hk]⟩,?_⟩,by omega,k2⟩;have:=k1 [];rw [List.append_nil] at this;exact this
theorem zC3 {v:List Nd}:mayS v=true↔(∀n∈v,zCM n=true)∧mayV v=true:=by
 unfold mayS;rw [Bool.and_eq_true,List.all_eq_true]
theorem zLV {v a:List Nd} (h:zB5 v []=(a,0)):zA7 a=(v,0)∧mayV a=true∧rawV a=true∧mayS v=true∧a.length=v.length:=by
 unfold zB5 at h
 split at h
 · rename_i hc
   split at h
   · rename_i hw
     obtain ⟨rfl,_⟩:=(Prod.mk.injEq _ _ _ _).mp h;obtain ⟨hQ,hv⟩:=zC3.1 hc.1;unfold zCq at hw ⊢;obtain ⟨k1,k2,k3⟩:=zEk zDC hv hQ trivial hw;have hraw:rawV (zAH zBL zAg 12 [] v).1.1=true:=by unfold rawV;rw [List.all_eq_true];exact k3
     have hu:=zK6 zNe 12 v [] v [] [] (zAj.1 hv).2.2 (by rw [List.append_nil]) hQ ⟨rfl,by decide +kernel⟩ hw [];rw [List.append_nil] at hu;refine ⟨?_,k1,hraw,hc.1,k2⟩;unfold zA7 resW;rw [if_pos ⟨k1,hraw⟩,hu]
     rfl
   · have:=congrArg Prod.snd h
     cases this
 · have:=congrArg Prod.snd h
   cases this
theorem zQv {r c:List Nd} (h:zA7 r=(c,0)):mayV c=true∧c.length=r.length∧(∀m∈c,zRk m)∧(mayS c=true∨∃m∈c,m.space=zAt):=by
 unfold zA7 at h
 split at h
 · rename_i hc
   split at h
   · rename_i hw
     obtain ⟨rfl,_⟩:=(Prod.mk.injEq _ _ _ _).mp h;unfold resW at hw ⊢;obtain ⟨k1,k2,k3⟩:=zEk zNF hc.1 (fun _ _=>trivial) zQf hw;refine ⟨k1,k2,k3,?_⟩
     by_cases hx:∃m∈(zAH resF zBg 12 [] r).1.1,m.space=zAt
     · exact .inr hx
     · left
       refine zC3.2 ⟨fun m hm=>zCY.2 ⟨(k3 m hm).1,fun e=>hx ⟨m,hm,e⟩,(k3 m hm).2.1,(k3 m hm).2.2⟩,k1⟩
   · have:=congrArg Prod.snd h
     cases this
 · have:=congrArg Prod.snd h
   cases this
theorem zQu {r c:List Nd} {e:Int} (h:zA7 r=(c,e)) (he:e≠0):c=[]∧(e=8∨e=110):=by
 unfold zA7 at h
 split at h
 · split at h
   · exact absurd ((Prod.mk.injEq _ _ _ _).mp h).2.symm he
   · obtain ⟨rfl,rfl⟩:=(Prod.mk.injEq _ _ _ _).mp h;exact ⟨rfl,.inr rfl⟩
 · obtain ⟨rfl,rfl⟩:=(Prod.mk.injEq _ _ _ _).mp h;exact ⟨rfl,.inl rfl⟩
end Ns
namespace Hx
structure Cod (α:Type) where
 k:Nat
 R:World→Nat→List Value→α→Prop
 len:∀{w:World} {B:Nat} {cs:List Value} {x:α},R w B cs x→cs.length=k
 keep:∀{w w':World} {B B':Nat} {cs:List Value} {x:α},R w B cs x→B≤B'→(∀b o,b < B→w'.cell? ⟨b,o,none⟩=w.cell? ⟨b,o,none⟩)→R w' B' cs x
def RdC {α:Type} (C:Cod α) (w:World) (B:Nat) (A:Option Addr) (l:List α):Prop :=
 0 < l.length→∃b off,A=some ⟨b,off,none⟩∧b < B∧∀j (h:j < l.length),∃cs,C.R w B cs (l[j]'h)∧∀i (hi:i < cs.length),w.cell? ⟨b,off+j*C.k+i,none⟩=some (cs[i]'hi)
section
variable {α:Type} {C:Cod α}
theorem RdC.keep {w w':World} {B B':Nat} {A:Option Addr} {l:List α} (h:RdC C w B A l) (hB:B≤B') (hk:∀b o,b < B→w'.cell? ⟨b,o,none⟩=w.cell? ⟨b,o,none⟩):RdC C w' B' A l:=by
 intro hp;obtain ⟨b,off,e,hb,hc⟩:=h hp;refine ⟨b,off,e,by omega,fun j hj=>?_⟩;obtain ⟨cs,h1,h2⟩:=hc j hj;exact ⟨cs,C.keep h1 hB hk,fun i hi=>(hk _ _ hb).trans (h2 i hi)⟩
theorem RdC.below {w w':World} {B:Nat} {A:Option Addr} {l:List α} (h:RdC C w B A l) (hb:Below B w w'):RdC C w' B A l:=h.keep (Nat.le_refl _) fun b o hlt=>hb.cell (p:=⟨b,o,none⟩) hlt
theorem RdC.mono {w:World} {B B':Nat} {A:Option Addr} {l:List α} (h:RdC C w B A l) (hB:B≤B'):RdC C w B' A l:=h.keep hB fun _ _ _=>rfl
theorem RdC.on {w w':World} {A:Option Addr} {l:List α} (h:RdC C w w.heap.size A l) (hb:Below w.heap.size w w'):RdC C w' w'.heap.size A l:=(h.below hb).mono hb.size
theorem RdC.nil (w:World) (B:Nat) (A:Option Addr):RdC C w B A []:=fun h=>absurd h (by simp)
end
def SlC {α:Type} (C:Cod α):Cod (List α) where
 k:=1
 R w B cs l:=∃A c,cs=[.slice A l.length c]∧l.length≤c∧c≤maxLen∧(A=none→c=0)∧RdC C w B A l
 len:=by rintro _ _ _ _ ⟨A,c,rfl,_⟩;rfl
 keep:=fun ⟨A,c,h1,h2,h3,h4,h5⟩ hB hk=>⟨A,c,h1,h2,h3,h4,h5.keep hB hk⟩
def zGr {H:Type} (enc:TypeId × Value→H) (P:Program) {α:Type} (C:Cod α) (t:TypeId):Prop :=
 ∀(W:World) (sp:Nat→Bool) (held:Bool) (fuel:Nat) (cs:List Value) (x:DataW H × List MemPlace),DataW.trod enc P W 0 sp held fuel t cs=some x→∃v,C.R W W.heap.size cs v
section
variable {H:Type} {enc:TypeId × Value→H} {P:Program}
theorem zGr.slice {α:Type} {C:Cod α} {t e:TypeId} (ht:P.underlying t=some (.slice e)) (hk:P.cellsOf e=C.k) (hk0:0 < C.k) (he:zGr enc P C e):zGr enc P (SlC C) t:=fun W sp held fuel cs x h=>by
 rcases Go.Deep.open_slice ht h with ⟨rfl,_⟩ | ⟨a,len,cap,m,n,D,Pl,rfl,_,hl,hm,hmm,_,hel⟩
 · exact ⟨[],none,0,rfl,Nat.le_refl _,Nat.zero_le _,fun _=>rfl,RdC.nil _ _ _⟩
 · have hlm:len≤m:=by rw [hmm];split <;> omega
   have each:∀i,i < len→∃v:α,∃cs',C.R W W.heap.size cs' v∧∀j (hj:j < cs'.length),W.cell? ((a.add (i*C.k)).add j)=some (cs'[j]'hj):=fun i hi=>by
    obtain ⟨cs',h1,h2⟩:=hel i (by omega);obtain ⟨v,hv⟩:=he _ _ _ _ _ _ h2;obtain ⟨_,k2,k3⟩:=World.cells?_some h1;rw [hk] at k2 k3;exact ⟨v,cs',hv,fun j hj=>by rw [k3 j (by omega)];exact List.getElem?_eq_getElem hj⟩
   by_cases hl0:len=0
   · subst hl0
     exact ⟨[],some a,cap,rfl,Nat.zero_le _,hm,fun h=>(by cases h),RdC.nil _ _ _⟩
   · classical
     obtain ⟨v0,_⟩:=each 0 (by omega)
     let f:Nat→α:=fun i=>if hi:i < len then Classical.choose (each i hi) else v0
     have hf:∀i (hi:i < len),∃cs',C.R W W.heap.size cs' (f i)∧∀j (hj:j < cs'.length),W.cell? ((a.add (i*C.k)).add j)=some (cs'[j]'hj):=fun i hi=>by
      show ∃cs',C.R W W.heap.size cs' (if hi:i < len then Classical.choose (each i hi) else v0)∧_;rw [dif_pos hi];exact Classical.choose_spec (each i hi)
     have hlen:((List.range len).map f).length=len:=by simp
     refine ⟨(List.range len).map f,some a,cap,by rw [hlen],by omega,hm,fun h=>(by cases h),fun _=>?_⟩;obtain ⟨b,off,spot⟩:=a
     have hspot:spot=none:=by
      obtain ⟨cs',h1,h2⟩:=hf 0 (by omega);have hc:=C.len h1;have:=World.cell?_spot (h2 0 (by omega))
      simpa [Addr.add] using this
     subst hspot;refine ⟨b,off,rfl,?_,fun j hj=>?_⟩
     · obtain ⟨cs',h1,h2⟩:=hf 0 (by omega)
       have hc:=C.len h1;have:=h2 0 (by omega);rw [zAh,zAh] at this;exact World.block_lt_of_cell? (a:=⟨b,_,none⟩) W this
     · rw [hlen] at hj
       obtain ⟨cs',h1,h2⟩:=hf j hj;refine ⟨cs',by simpa using h1,fun i hi=>?_⟩;have:=h2 i hi;rw [zAh,zAh] at this;exact this
end
theorem zGE {β:Type} (f:β→List Value) (k:Nat) (hk:∀b,(f b).length=k):∀(l:List β) (j i:Nat) (hj:j < l.length) (hi:i < k),(l.flatMap f)[j*k+i]?=some ((f (l[j]'hj))[i]'(by rw [hk];exact hi)):=by
 intro l
 induction l with
 | nil=>intro j i hj;simp at hj
 | cons b l ih =>
  intro j i hj hi;rw [List.flatMap_cons]
  cases j with
  | zero =>
   rw [Nat.zero_mul,Nat.zero_add,List.getElem?_append_left (by rw [hk];exact hi)];exact List.getElem?_eq_getElem _
  | succ j =>
   rw [List.getElem?_append_right (by rw [hk,Nat.succ_mul];omega),hk,show (j+1)*k+i - k=j*k+i by rw [Nat.succ_mul];omega];exact ih j i (by simpa using hj) hi
theorem zGF {β:Type} (f:β→List Value) (k:Nat) (hk:∀b,(f b).length=k) (l:List β):(l.flatMap f).length=l.length*k:=by
 induction l with
 | nil=>simp
 | cons b l ih=>rw [List.flatMap_cons,List.length_append,hk,ih,List.length_cons,Nat.succ_mul];omega
theorem RdC.of_own {α β:Type} {C:Cod α} {w:World} {base:Nat} {e:TypeId} {A:Option Addr} {n c:Nat} (f:β→List Value) (val:β→α) (hk:∀b,(f b).length=C.k) (hk0:0 < C.k) (l:List β) (hR:∀b∈l,C.R w w.heap.size (f b) (val b))
 (h:w.ownsRow base e C.k (.slice A n c) n (l.flatMap f)):RdC C w w.heap.size A (l.map val)∧l.length=n∧n≤c∧c≤maxLen∧(A=none→c=0):=by
 have hl:l.length=n:=by
  have:=h.1;rw [zGF f C.k hk] at this;exact Nat.eq_of_mul_eq_mul_right hk0 this
 rcases h.2 with ⟨e1,h0⟩ | ⟨g,cap,cur,hv,hb,hg,hnc,hcm,_,_⟩
 · injection e1 with e1 e2 e3
   subst e1 e3;have:l=[]:=List.eq_nil_of_length_eq_zero (by omega);subst this;exact ⟨RdC.nil _ _ _,hl,by omega,Nat.zero_le _,fun _=>rfl⟩
 · injection hv with e1 e2 e3
   subst e1 e3;have hlt:g < w.heap.size:=(Array.getElem?_eq_some_iff.1 hg).1;refine ⟨fun hp=>⟨g,0,rfl,hlt,fun j hj=>?_⟩,hl,hnc,hcm,fun h=>by cases h⟩;have hj':j < l.length:=by simpa using hj
   refine ⟨f (l[j]'hj'),by simpa using hR _ (List.getElem_mem hj'),fun i hi=>?_⟩;have hi':i < C.k:=by rw [hk] at hi;exact hi
   have:=h.cells (g:=g) rfl (j*C.k+i) _ (zGE f C.k hk l j i hj' hi');rw [zAh] at this;rw [Nat.zero_add,←this,Nat.zero_add]
end Hx
namespace Hx
open Lx
def PrC:Cod Pr where
 k:=2
 R _ _ cs p:=∃s t:ByteArray,cs=[.string s,.string t]∧s.data.toList=p.name∧t.data.toList=p.value
 len:=by rintro _ _ _ _ ⟨s,t,rfl,_⟩;rfl
 keep:=fun h _ _=>h
def TkC:Cod Tk where
 k:=4
 R w B cs t:=∃(s:ByteArray) (A:Option Addr) (c:Nat) (u:ByteArray),cs=[.int .u8 (t.kind:Int),.string s,.slice A t.attrs.length c,.string u]∧t.kind < 256∧s.data.toList=t.name∧u.data.toList=t.text∧t.attrs.length≤c∧c≤maxLen∧(A=none→c=0)∧RdC PrC w B A t.attrs
 len:=by rintro _ _ _ _ ⟨s,A,c,u,rfl,_⟩;rfl
 keep:=fun ⟨s,A,c,u,h1,h2,h3,h4,h5,h6,h7,h8⟩ hB hk=>⟨s,A,c,u,h1,h2,h3,h4,h5,h6,h7,h8.keep hB hk⟩
section
variable {H:Type} {enc:TypeId × Value→H}
end
end Hx
namespace Hx
theorem zAB {a b:World} {k:Nat} {o:Obj} (h:a.heap[k]?=some o) (hb:Below a.heap.size a b):b.heap[k]?=some o:=(hb.block k (Array.getElem?_eq_some_iff.1 h).1).trans h
theorem zAc {a:World} {k:Nat} {o:Obj} (h:a.heap[k]?=some o):k < a.heap.size:=(Array.getElem?_eq_some_iff.1 h).1
theorem zDW {B g:Nat} {w0 w:World} (hb:Below B w0 w) (hBg:B≤g) (cs:Array Value):Below B w0 (w.setRow g cs) :=
 hb.trans ⟨rfl,rfl,rfl,by simp [World.setRow],fun k hk=>setRow_other w g k cs (by omega)⟩
theorem zIe {w w':World} {B M:Nat} {o:Obj} (h:w.heap[M]?=some o) (hb:Below B w w') (hM:M < B):w'.heap[M]?=some o:=(hb.block M hM).trans h
theorem zAl {w w' w0:World} {B n:Nat} (h0:Below n w0 w) (h:Below B w w') (hn:n≤B):Below n w0 w':=h0.trans (h.mono hn)
theorem zOv (w:World) (x y:Obj):({ w.alloc x with heap:=(w.alloc x).heap.setIfInBounds w.heap.size y }:World)=w.alloc y:=by
 have h:(w.heap.push x).setIfInBounds w.heap.size y=w.heap.push y:=by
  apply Array.ext_getElem?;intro i;rw [Array.getElem?_setIfInBounds,Array.getElem?_push,Array.getElem?_push]
  by_cases e:i=w.heap.size
  · subst e;simp
  · rw [if_neg (fun h=>e h.symm),if_neg e,if_neg e]
 show ({ w with heap:=(w.heap.push x).setIfInBounds w.heap.size y }:World)={ w with heap:=w.heap.push y };rw [h]
theorem zM5 {P:Program} {w:World} {t k e:TypeId} {kd:TypeDesc} {es:Array MapEntry} {n:Nat} {key val:Value}
 (ht:P.underlying t=some (.map k e)) (hk:P.underlying k=some kd) (hkd:MapKept.IsKey kd key) (hf:Instr.findNow kd key es.toList 0=some none) :
 (Instr.mapUpdate t (.map (some w.heap.size)) key val).run P (w.alloc (.map es n))=.ok () (w.alloc (.map (es.push ⟨key,val,n⟩) (n+1))):=by
 have hb:(w.alloc (.map es n)).heap[w.heap.size]?=some (.map es n):=heap_alloc_new w _;have hc:=MapKept.run_checkKey (w:=w.alloc (.map es n)) hk hkd false 9999
 have hfk:(Instr.findKey k key es.toList).run P (w.alloc (.map es n))=.ok none (w.alloc (.map es n)):=by
  simp [Instr.findKey,run_underlying hk,hf,Result.andThen]
 simp [Instr.mapUpdate,run_underlying ht,MapKept.run_getObj_map hb,hc,hfk,MapKept.run_setObj_map _ hb,Result.andThen]
 exact zOv w _ _
theorem zKu {P:Program} {w:World} {t k e:TypeId} {kd:TypeDesc} {es:Array MapEntry} {n b:Nat} {key val:Value} (hb:w.heap.size=b)
 (ht:P.underlying t=some (.map k e)) (hk:P.underlying k=some kd) (hkd:MapKept.IsKey kd key) (hf:Instr.findNow kd key es.toList 0=some none) :
 (Instr.mapUpdate t (.map (some b)) key val).run P (w.alloc (.map es n))=.ok () (w.alloc (.map (es.push ⟨key,val,n⟩) (n+1))):=by
 subst hb;exact zM5 ht hk hkd hf
def zMI (z:Value):Option (Nat × Value)→Value
 | some (_,v)=>.tuple #[v,.bool true]
 | none=>.tuple #[z,.bool false]
theorem zKC {P:Program} {w:World} {t k e:TypeId} {kd:TypeDesc} {b:Nat} {es:Array MapEntry} {n:Nat} {key z:Value} {r:Option (Nat × Value)}
 (ht:P.underlying t=some (.map k e)) (hk:P.underlying k=some kd) (hkd:MapKept.IsKey kd key) (hb:w.heap[b]?=some (.map es n)) (he:es.isEmpty=false)
 (hz:(zeroValue e).run P w=.ok z w) (hf:Instr.findNow kd key es.toList 0=some r) :
 (Instr.lookup t (.map (some b)) key true).run P w=.ok (zMI z r) w:=by
 have hc:=MapKept.run_checkKey (w:=w) hk hkd es.isEmpty 9999
 have hfk:(Instr.findKey k key es.toList).run P w=.ok r w:=by
  simp [Instr.findKey,run_underlying hk,hf,Result.andThen]
 cases r with
 | none=>simp [Instr.lookup,run_underlying ht,MapKept.run_getObj_map hb,hc,hfk,hz,Result.andThen,zMI]
 | some p=>simp [Instr.lookup,run_underlying ht,MapKept.run_getObj_map hb,hc,hfk,Result.andThen,zMI]
theorem zB9 {P:Program} {w:World} {ops:Array Oper} {rest:List Oper} {o:Oper} {a:Act} {Q:Exit→Act→World→Prop}
 (hg:o.guard=none) (m x v:Operand) (t:TypeId) (hop:o.op=Op.insert t m x v) {w':World} {mv kv vv:Value} (hm:a.eval m=mv) (hx:a.eval x=kv) (hv:a.eval v=vv)
 (hrun:(Instr.mapUpdate t mv kv vv).run P w=.ok () w') (hK:wpList P ops Q rest (a.put o.dst undef) w'):wpList P ops Q (o::rest) a w:=by
 refine wpList_plain hg fun K' hK'=>?_
 unfold Oper.wp
 simp [execOp,hop,hm,hx,hv,hrun,Result.andThen]
 exact hK' _ _ hK
theorem zCL {P:Program} {w:World} {ops:Array Oper} {rest:List Oper} {o:Oper} {a:Act} {Q:Exit→Act→World→Prop}
 (hg:o.guard=none) (m x:Operand) (t:TypeId) (hop:o.op=Op.lookup t m x true) {mv kv v:Value} (hm:a.eval m=mv) (hx:a.eval x=kv)
 (hrun:(Instr.lookup t mv kv true).run P w=.ok v w) (hK:wpList P ops Q rest (a.put o.dst v) w):wpList P ops Q (o::rest) a w:=by
 refine wpList_plain hg fun K' hK'=>?_
 unfold Oper.wp
 simp [execOp,hop,hm,hx,hrun,Result.andThen]
 exact hK' _ _ hK
end Hx
namespace Hx
open Lx Tr
structure CodS (α:Type) where
 k:Nat
 R:World→(Nat→Prop)→List Value→α→Prop
 len:∀{w:World} {S:Nat→Prop} {cs:List Value} {x:α},R w S cs x→cs.length=k
 one:∀{w:World} {S:Nat→Prop} {cs:List Value} {x:α},R w S cs x→∀v∈cs,v.oneCell'=true
 keep:∀{w w':World} {S S':Nat→Prop} {cs:List Value} {x:α},R w S cs x→(∀b,S b→S' b)→(∀b o,S b→w'.cell? ⟨b,o,none⟩=w.cell? ⟨b,o,none⟩)→R w' S' cs x
def RdS {α:Type} (C:CodS α) (w:World) (S:Nat→Prop) (A:Option Addr) (l:List α):Prop :=
 0 < l.length→∃b off,A=some ⟨b,off,none⟩∧S b∧∀j (h:j < l.length),∃cs,C.R w S cs (l[j]'h)∧∀i (hi:i < cs.length),w.cell? ⟨b,off+j*C.k+i,none⟩=some (cs[i]'hi)
def RdB {α:Type} (C:CodS α) (w:World) (A:Option Addr) (l:List α):Prop:=RdS C w (fun b=>b < w.heap.size) A l
section
variable {α:Type} {C:CodS α}
theorem RdS.keep {w w':World} {S S':Nat→Prop} {A:Option Addr} {l:List α} (h:RdS C w S A l) (hS:∀b,S b→S' b) (hk:∀b o,S b→w'.cell? ⟨b,o,none⟩=w.cell? ⟨b,o,none⟩):RdS C w' S' A l:=by
 intro hp;obtain ⟨b,off,e,hb,hc⟩:=h hp;refine ⟨b,off,e,hS b hb,fun j hj=>?_⟩;obtain ⟨cs,h1,h2⟩:=hc j hj;exact ⟨cs,C.keep h1 hS hk,fun i hi=>(hk _ _ hb).trans (h2 i hi)⟩
theorem RdS.mono {w:World} {S S':Nat→Prop} {A:Option Addr} {l:List α} (h:RdS C w S A l) (hS:∀b,S b→S' b):RdS C w S' A l:=h.keep hS fun _ _ _=>rfl
theorem RdS.nil (w:World) (S:Nat→Prop) (A:Option Addr):RdS C w S A []:=fun h=>absurd h (by simp)
theorem RdB.on {w w':World} {A:Option Addr} {l:List α} (h:RdB C w A l) (hb:Below w.heap.size w w'):RdB C w' A l :=
 RdS.keep h (fun b hlt=>Nat.lt_of_lt_of_le hlt hb.size) fun b o hlt=>hb.cell (p:=⟨b,o,none⟩) hlt
theorem RdS.at {w:World} {S:Nat→Prop} {A:Option Addr} {l:List α} {k:Nat} (h:RdS C w S A l) (hk:k < l.length) :
 ∃b off cs,A=some ⟨b,off,none⟩∧S b∧C.R w S cs (l[k]'hk)∧∀i (hi:i < cs.length),w.cell? ⟨b,off+k*C.k+i,none⟩=some (cs[i]'hi):=by
 obtain ⟨b,off,e,hb,hc⟩:=h (by omega);obtain ⟨cs,h1,h2⟩:=hc k hk;exact ⟨b,off,cs,e,hb,h1,h2⟩
theorem RdS.drop {w:World} {S:Nat→Prop} {b off:Nat} {l:List α} (h:RdS C w S (some ⟨b,off,none⟩) l) (i:Nat):RdS C w S (some ⟨b,off+i*C.k,none⟩) (l.drop i):=by
 intro hp;rw [List.length_drop] at hp;obtain ⟨b',off',e,hb,hc⟩:=h (by omega);injection e with e;injection e with e1 e2 _;subst e1 e2;refine ⟨b,off+i*C.k,rfl,hb,fun j hj=>?_⟩;rw [List.length_drop] at hj;obtain ⟨cs,h1,h2⟩:=hc (i+j) (by omega);refine ⟨cs,by rw [List.getElem_drop];exact h1,fun m hm=>?_⟩;have:=h2 m hm
 rwa [show off+i*C.k+j*C.k+m=off+(i+j)*C.k+m by rw [Nat.add_mul];omega]
theorem RdS.take {w:World} {S:Nat→Prop} {A:Option Addr} {l:List α} (h:RdS C w S A l) (k:Nat):RdS C w S A (l.take k):=by
 intro hp;have hl:=List.length_take (i:=k) (l:=l);obtain ⟨b,off,e,hb,hc⟩:=h (by omega);refine ⟨b,off,e,hb,fun j hj=>?_⟩;obtain ⟨cs,h1,h2⟩:=hc j (by omega);exact ⟨cs,by rw [List.getElem_take];exact h1,h2⟩
end
def CodS.old {α:Type} (C:CodS α):Cod α where
 k:=C.k
 R w B cs x:=C.R w (fun b=>b < B) cs x
 len:=fun h=>C.len h
 keep:=fun h hB hk=>C.keep h (fun b hb=>Nat.lt_of_lt_of_le hb hB) fun b o hb=>hk b o hb
theorem RdC.toS {α:Type} {C:CodS α} {w:World} {B:Nat} {A:Option Addr} {l:List α} (h:RdC C.old w B A l):RdS C w (fun b=>b < B) A l:=h
def AtS:CodS At where
 k:=3
 R _ _ cs a:=∃x y z:ByteArray,cs=[.string x,.string y,.string z]∧x.data.toList=a.space∧y.data.toList=a.name∧z.data.toList=a.value
 len:=by rintro _ _ _ _ ⟨x,y,z,rfl,_⟩;rfl
 one:=by
  rintro _ _ _ _ ⟨x,y,z,rfl,_⟩ v hv
  simp at hv
  rcases hv with rfl | rfl | rfl <;> rfl
 keep:=fun h _ _=>h
def zBk (n:Nd) (x y z:ByteArray) (A:Option Addr) (c:Nat):List Value:=[.int .u8 (n.kind:Int),.string x,.string y,.slice A n.attrs.length c,.string z,.int .i64 n.many]
def NdV (n:Nd) (x y z:ByteArray) (A:Option Addr) (c:Nat):Value:=.agg #[.int .u8 (n.kind:Int),.string x,.string y,.slice A n.attrs.length c,.string z,.int .i64 n.many]
structure NdIn (n:Nd) (x y z:ByteArray) (A:Option Addr) (c:Nat) (w:World) (S:Nat→Prop):Prop where
 space:x.data.toList=n.space
 name:y.data.toList=n.name
 text:z.data.toList=n.text
 attrs:RdS AtS w S A n.attrs
 le:n.attrs.length≤c
 cm:c≤maxLen
 nil:A=none→c=0
 kd:n.kind < 256
 lo: -9223372036854775808≤n.many
 hi:n.many≤9223372036854775807
theorem NdIn.keep {n:Nd} {x y z:ByteArray} {A:Option Addr} {c:Nat} {w w':World} {S S':Nat→Prop} (h:NdIn n x y z A c w S) (hS:∀b,S b→S' b) (hk:∀b o,S b→w'.cell? ⟨b,o,none⟩=w.cell? ⟨b,o,none⟩):NdIn n x y z A c w' S' :=
 ⟨h.space,h.name,h.text,h.attrs.keep hS hk,h.le,h.cm,h.nil,h.kd,h.lo,h.hi⟩
def NdS:CodS Nd where
 k:=6
 R w S cs n:=∃(x y z:ByteArray) (A:Option Addr) (c:Nat),cs=zBk n x y z A c∧NdIn n x y z A c w S
 len:=by rintro _ _ _ _ ⟨x,y,z,A,c,rfl,_⟩;rfl
 one:=by
  rintro _ _ _ _ ⟨x,y,z,A,c,rfl,_⟩ v hv
  simp [zBk] at hv
  rcases hv with rfl | rfl | rfl | rfl | rfl | rfl <;> rfl
 keep:=fun ⟨x,y,z,A,c,h1,h2⟩ hS hk=>⟨x,y,z,A,c,h1,h2.keep hS hk⟩
def NdAt (n:Nd) (x y z:ByteArray) (A:Option Addr) (c:Nat) (w:World):Prop:=NdIn n x y z A c w (fun b=>b < w.heap.size)
theorem NdAt.on {n:Nd} {x y z:ByteArray} {A:Option Addr} {c:Nat} {w w':World} (h:NdAt n x y z A c w) (hb:Below w.heap.size w w'):NdAt n x y z A c w' :=
 NdIn.keep h (fun b hlt=>Nat.lt_of_lt_of_le hlt hb.size) fun b o hlt=>hb.cell (p:=⟨b,o,none⟩) hlt
theorem NdAt.rd {n:Nd} {x y z:ByteArray} {A:Option Addr} {c:Nat} {w:World} (h:NdAt n x y z A c w):RdB AtS w A n.attrs:=h.attrs
structure zAV (n:Nd):Prop where
 space:n.space.length≤1000000
 name:n.name.length≤1000000
 text:n.text.length≤1000000
 attrs:n.attrs.length≤1000000
 each:∀a∈n.attrs,a.space.length≤1000000∧a.name.length≤1000000∧a.value.length≤1000000
theorem zBz {w:World} {S:Nat→Prop} {A:Option Addr} {l:List Nd} {k:Nat} (hr:RdS NdS w S A l) (hk:k < l.length) :
 ∃(b off:Nat) (x y z:ByteArray) (A1:Option Addr) (c1:Nat),A=some ⟨b,off,none⟩∧S b∧NdIn (l[k]'hk) x y z A1 c1 w S ∧
  w.cell? ⟨b,off+k*6,none⟩=some (.int .u8 ((l[k]'hk).kind:Int))∧w.cell? ⟨b,off+k*6+1,none⟩=some (.string x)∧w.cell? ⟨b,off+k*6+2,none⟩=some (.string y) ∧
  w.cell? ⟨b,off+k*6+3,none⟩=some (.slice A1 (l[k]'hk).attrs.length c1)∧w.cell? ⟨b,off+k*6+4,none⟩=some (.string z)∧w.cell? ⟨b,off+k*6+5,none⟩=some (.int .i64 (l[k]'hk).many):=by
 obtain ⟨b,off,cs,e,hb,⟨x,y,z,A1,c1,rfl,hin⟩,hc⟩:=hr.at hk;exact ⟨b,off,x,y,z,A1,c1,e,hb,hin,hc 0 (by simp [zBk]),hc 1 (by simp [zBk]),hc 2 (by simp [zBk]),hc 3 (by simp [zBk]),hc 4 (by simp [zBk]),hc 5 (by simp [zBk])⟩
theorem zDU {w:World} {S:Nat→Prop} {A:Option Addr} {l:List At} {k:Nat} (hr:RdS AtS w S A l) (hk:k < l.length) :
 ∃(b off:Nat) (x y z:ByteArray),A=some ⟨b,off,none⟩∧S b∧x.data.toList=(l[k]'hk).space∧y.data.toList=(l[k]'hk).name∧z.data.toList=(l[k]'hk).value ∧
  w.cell? ⟨b,off+k*3,none⟩=some (.string x)∧w.cell? ⟨b,off+k*3+1,none⟩=some (.string y)∧w.cell? ⟨b,off+k*3+2,none⟩=some (.string z):=by
 obtain ⟨b,off,cs,e,hb,⟨x,y,z,rfl,h1,h2,h3⟩,hc⟩:=hr.at hk;exact ⟨b,off,x,y,z,e,hb,h1,h2,h3,hc 0 (by simp),hc 1 (by simp),hc 2 (by simp)⟩
section
variable {H:Type} {enc:TypeId × Value→H}
theorem zCy:prog.cellsOf 9=1∧prog.cellsOf 5=1∧prog.cellsOf 40=1∧prog.cellsOf 3=1∧prog.cellsOf 44=3∧prog.cellsOf 42=6:=⟨by kernel_rfl,by kernel_rfl,by kernel_rfl,by kernel_rfl,by kernel_rfl,by kernel_rfl⟩
theorem zPF {cs:List Value} (h:cs.length=3):∃x y z,cs=[x,y,z]:=by
 match cs,h with
 | [x,y,z],_=>exact ⟨x,y,z,rfl⟩
theorem zRp {cs:List Value} (h:cs.length=6):∃x y z u v t,cs=[x,y,z,u,v,t]:=by
 match cs,h with
 | [x,y,z,u,v,t],_=>exact ⟨x,y,z,u,v,t,rfl⟩
theorem zKj:zGr enc prog AtS.old 44:=fun W sp held fuel cs x h=>by
 obtain ⟨c1,_,_,_,c3,_⟩:=zCy;obtain ⟨xs,n,_,_,hl,hx,hf⟩:=DataW.trod_struct underlying44 h;rw [c3] at hl;obtain ⟨a,b,c,rfl⟩:=zPF hl;have h0:DataW.trod enc prog W 0 sp held n 9 (([a,b,c].drop 0).take (prog.cellsOf 9))=xs[0]?:=hf 0 _ rfl;have h1:DataW.trod enc prog W 0 sp held n 9 (([a,b,c].drop 1).take (prog.cellsOf 9))=xs[1]?:=hf 1 _ rfl;have h2:DataW.trod enc prog W 0 sp held n 9 (([a,b,c].drop 2).take (prog.cellsOf 9))=xs[2]?:=hf 2 _ rfl;have hx2:xs.length=3:=hx;simp only [c1,List.drop_zero,List.drop_succ_cons,List.take_succ_cons,List.take_zero] at h0 h1 h2;obtain ⟨s,e1,_⟩:=DataW.trod_string underlying9 (h0.trans (List.getElem?_eq_getElem (by omega)));obtain ⟨t,e2,_⟩:=DataW.trod_string underlying9 (h1.trans (List.getElem?_eq_getElem (by omega)));obtain ⟨u,e3,_⟩:=DataW.trod_string underlying9 (h2.trans (List.getElem?_eq_getElem (by omega)));obtain ⟨rfl,_⟩:=List.cons.inj e1;obtain ⟨rfl,_⟩:=List.cons.inj e2;obtain ⟨rfl,_⟩:=List.cons.inj e3;exact ⟨⟨_,_,_⟩,s,t,u,rfl,rfl,rfl,rfl⟩
theorem zKk:zGr enc prog NdS.old 42:=fun W sp held fuel cs x h=>by
 obtain ⟨c1,c2,c3,c4,c5,c6⟩:=zCy;obtain ⟨xs,n,_,_,hl,hx,hf⟩:=DataW.trod_struct underlying42 h;rw [c6] at hl;obtain ⟨a,b,c,d,e,f,rfl⟩:=zRp hl;have h0:DataW.trod enc prog W 0 sp held n 5 (([a,b,c,d,e,f].drop 0).take (prog.cellsOf 5))=xs[0]?:=hf 0 _ rfl;have h1:DataW.trod enc prog W 0 sp held n 9 (([a,b,c,d,e,f].drop 1).take (prog.cellsOf 9))=xs[1]?:=hf 1 _ rfl;have h2:DataW.trod enc prog W 0 sp held n 9 (([a,b,c,d,e,f].drop 2).take (prog.cellsOf 9))=xs[2]?:=hf 2 _ rfl;have h3:DataW.trod enc prog W 0 sp held n 40 (([a,b,c,d,e,f].drop 3).take (prog.cellsOf 40))=xs[3]?:=hf 3 _ rfl;have h4:DataW.trod enc prog W 0 sp held n 9 (([a,b,c,d,e,f].drop 4).take (prog.cellsOf 9))=xs[4]?:=hf 4 _ rfl;have h5:DataW.trod enc prog W 0 sp held n 3 (([a,b,c,d,e,f].drop 5).take (prog.cellsOf 3))=xs[5]?:=hf 5 _ rfl;have hx2:xs.length=6:=hx;simp only [c1,c2,c3,c4,List.drop_zero,List.drop_succ_cons,List.take_succ_cons,List.take_zero] at h0 h1 h2 h3 h4 h5;obtain ⟨m,e0,_,w0⟩:=DataW.trod_int underlying5 (h0.trans (List.getElem?_eq_getElem (by omega)));obtain ⟨s,e1,_⟩:=DataW.trod_string underlying9 (h1.trans (List.getElem?_eq_getElem (by omega)));obtain ⟨t,e2,_⟩:=DataW.trod_string underlying9 (h2.trans (List.getElem?_eq_getElem (by omega)));obtain ⟨l,A,cp,e3,k1,k2,k3,k4⟩:=(zGr.slice (C:=AtS.old) underlying40 c5 (by decide) zKj) W sp held _ _ _ (h3.trans (List.getElem?_eq_getElem (by omega)));obtain ⟨u,e4,_⟩:=DataW.trod_string underlying9 (h4.trans (List.getElem?_eq_getElem (by omega)));obtain ⟨y,e5,_,w5⟩:=DataW.trod_int underlying3 (h5.trans (List.getElem?_eq_getElem (by omega)));obtain ⟨rfl,_⟩:=List.cons.inj e0;obtain ⟨rfl,_⟩:=List.cons.inj e1;obtain ⟨rfl,_⟩:=List.cons.inj e2;obtain ⟨rfl,_⟩:=List.cons.inj e3;obtain ⟨rfl,_⟩:=List.cons.inj e4;obtain ⟨rfl,_⟩:=List.cons.inj e5;have hb:=bounds_u8 w0;have hy:=bounds_i64 w5;obtain ⟨k,rfl⟩:∃k:Nat,m=(k:Int):=⟨m.toNat,by omega⟩;exact ⟨⟨k,_,_,l,_,y⟩,s,t,u,A,cp,rfl,rfl,rfl,rfl,k4,k1,k2,k3,by show k < 256;omega,by show _≤y;omega,by show y≤_;omega⟩
theorem zIs:zGr enc prog (SlC NdS.old) 22:=zGr.slice (C:=NdS.old) underlying22 zCy.2.2.2.2.2 (by decide) zKk
end
end Hx
end Go.Proofs.YtlgppednjkbgiaaGreatDoor
