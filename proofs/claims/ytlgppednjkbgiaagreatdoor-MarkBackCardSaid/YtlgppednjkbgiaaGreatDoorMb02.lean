/-
  Texts of one seat, put together: SpaN, MemC, LexC, MemV, MapA, MemD.
-/
import Derived.Test.YtlgppednjkbgiaaGreatDoorMbA
import Derived.Test.YtlgppednjkbgiaaGreatDoorMb01
import Derived.Test.YtlgppednjkbgiaaGreatDoorMb00
import Derived.Deep.Slices
import Derived.Laws.Rows
import Derived.Laws.Tables
import Derived.MapKept
set_option maxRecDepth 100000
set_option maxHeartbeats 16000000
set_option linter.unusedVariables false
namespace Go.Proofs.YtlgppednjkbgiaaGreatDoor
open Go.RowKit Go.Proofs.Tryz
namespace Ns
open Lx Tr Tx Nmb Es
def zAQ:List UInt8:=[120,109,108,110,115]
def xml3:List UInt8:=[120,109,108]
def zAr:List UInt8:=[104,116,116,112,58,47,47,119,119,119,46,119,51,46,111,114,103,47,88,77,76,47,49,57,57,56,47,110,97,109,101,115,112,97,99,101]
def zAc:List UInt8:=[104,116,116,112,58,47,47,119,119,119,46,119,51,46,111,114,103,47,50,48,48,48,47,120,109,108,110,115,47]
def decl (nm:List UInt8):Option (List UInt8):=match cutC nm with
 | some (a,b)=>if a=zAQ then some b else none
 | none=>if nm=zAQ then some [] else none
def zB3 (p v:List UInt8):Bool:=if p=xml3 then decide (v=zAr) else decide (p≠zAQ)&&decide (v≠zAr)&&decide (v≠zAc)&&(decide (p=[])||decide (v≠[]))
def zBa:List At→List UInt8→Option (List UInt8)
 | [],_=>none
 | a::l,p=>if decl a.name=some p then some a.value else zBa l p
def zA0:List (List At)→List UInt8→List UInt8 × Bool
 | [],p=>if p=xml3 then (zAr,true) else ([],decide (p=[]))
 | l::E,p=>match zBa l p with
  | some v=>(v,true)
  | none=>zA0 E p
def zHQ (nm:List UInt8):List UInt8 × List UInt8:=match cutC nm with
 | some x=>x
 | none=>([],nm)
def atE (E:List (List At)) (a:At):At × Bool:=match cutC a.name with
 | some (x,y)=>(⟨(zA0 E x).1,y,a.value⟩,(zA0 E x).2)
 | none=>(⟨[],a.name,a.value⟩,true)
def hasK (l:List At) (a:At):Bool:=l.any fun b=>decide (key b=key a)
def atsE (E:List (List At)):List At→List At→List At × Bool
 | acc,[]=>(acc,true)
 | acc,a::l=>match decl a.name with
  | some p=>((atsE E acc l).1,zB3 p a.value&&(atsE E acc l).2)
  | none=>((atsE E (acc++[(atE E a).1]) l).1,((atE E a).2&& !hasK acc (atE E a).1)&&(atsE E (acc++[(atE E a).1]) l).2)
def ndE (E:List (List At)) (n:Nd):Nd × Bool:=(⟨1,(zA0 E (zHQ n.name).1).1,(zHQ n.name).2,(atsE E [] n.attrs).1,[],n.many⟩,(zA0 E (zHQ n.name).1).2&&(atsE E [] n.attrs).2)
def resF (E:List (List At)) (n:Nd):Nd × Bool:=ndE (n.attrs::E) n
def zBe (E:List (List At)) (n:Nd):List (List At):=n.attrs::E
def resW (v:List Nd):(List Nd × Bool) × List Nd:=zAK resF zBe 12 [] v
def zA5 (v:List Nd):List Nd × Int:=if mayV v=true∧rawV v=true then (if (resW v).1.2=true then ((resW v).1.1,0) else ([],110)) else ([],8)
def zDv (a:At):Bool:=zBG a.name&& !(decide (a.space=[])&&decide (a.name=zAQ))&&decide (a.space≠zAc)
def zCT (n:Nd):Bool:=(decide (n.kind≠1)||zBG n.name)&&decide (n.space≠zAr)&&decide (n.space≠zAc)&&n.attrs.all zDv
def mayS (v:List Nd):Bool:=v.all zCT&&mayV v
def zEE (v:List Nd):Int:=if mayS v=true then 0 else 8
def zAn:List (List UInt8)→List At→List (List UInt8)
 | acc,[]=>acc
 | acc,a::l=>if a.space=[]∨a.space=zAr∨a.space∈acc then zAn acc l else zAn (acc++[a.space]) l
def zBf (i:Nat):List UInt8:=110::dg (i+1)
def zBF (S:List (List UInt8)) (a:At):At :=
 if a.space=[] then ⟨[],a.name,a.value⟩ else if a.space=zAr then ⟨[],xml3++58::a.name,a.value⟩ else ⟨[],zBf (S.idxOf a.space)++58::a.name,a.value⟩
def numD:Nat→List (List UInt8)→List At
 | _,[]=>[]
 | i,s::S=>⟨[],zAQ++58::zBf i,s⟩::numD (i+1) S
def ownD (outer:List UInt8) (n:Nd):List At:=if n.space=outer then [] else [⟨[],zAQ,n.space⟩]
def zBN (outer:List UInt8) (n:Nd):List At:=ownD outer n++(numD 0 (zAn [] n.attrs)++n.attrs.map (zBF (zAn [] n.attrs)))
def zCy (outer:List UInt8) (n:Nd):Nd:=⟨1,[],n.name,zBN outer n,[],n.many⟩
def zCQ (outer:List UInt8) (n:Nd):Nd × Bool:=(zCy outer n,decide ((zBN outer n).length≤16))
def zA3 (outer:List UInt8) (n:Nd):List UInt8:=n.space
def zGr (v:List Nd) (outer:List UInt8):(List Nd × Bool) × List Nd:=zAK zCQ zA3 12 outer v
def zCS (v:List Nd) (outer:List UInt8):List Nd × Int:=if mayS v=true∧okT outer=true∧outer≠zAr∧outer≠zAc then (if (zGr v outer).1.2=true then ((zGr v outer).1.1,0) else ([],4)) else ([],8)
theorem zCP:∀{a b:List UInt8},(58:UInt8)∉a→cutC (a++58::b)=some (a,b)
 | [],b,_=>by rw [List.nil_append,cutC,if_pos rfl]
 | c::a,b,h=>by
  rw [List.mem_cons,not_or] at h;rw [List.cons_append,cutC,if_neg (Ne.symm h.1),zCP h.2]
  rfl
theorem zKD:∀{l:List UInt8},(58:UInt8)∉l→cutC l=none
 | [],_=>rfl
 | c::l,h=>by
  rw [List.mem_cons,not_or] at h;rw [cutC,if_neg (Ne.symm h.1),zKD h.2]
  rfl
theorem zCN {l:List UInt8} (h:zBG l=true):(58:UInt8)∉l:=fun hm=>by
 have:=zDb h 58 hm
 revert this
 decide
theorem zC0 {l:List UInt8} (h:zBG l=true):cutC l=none:=zKD (zCN h)
theorem zC8 {l:List UInt8} (h:zBG l=true):zAP l=true:=by
 unfold zAP;rw [zC0 h];exact h
theorem zGe {a b:List UInt8} (ha:zBG a=true) (hb:zBG b=true):zAP (a++58::b)=true:=by
 unfold zAP;rw [zCP (zCN ha)]
 simp [ha,hb]
theorem zPD {c:UInt8} (h:isDg c=true):nch c=true:=by
 unfold isDg at h;unfold nch;rw [h]
 simp
theorem zC6 (i:Nat):zBG (zBf i)=true:=by
 unfold zBf zBG;rw [Bool.and_eq_true];refine ⟨by decide,List.all_eq_true.2 fun c hc=>zPD (List.all_eq_true.1 (zNO _) c hc)⟩
theorem zG2 {i j:Nat} (h:zBf i=zBf j):i=j:=by
 unfold zBf at h;injection h with _ h;have:=zR1 h
 omega
theorem zDh (i:Nat):zBf i≠[]∧zBf i≠xml3∧zBf i≠zAQ:=by
 unfold zBf xml3 zAQ;refine ⟨fun h=>(by cases h),fun h=>?_,fun h=>?_⟩ <;>
 · injection h with h _
   revert h
   decide
theorem zB9:zBG zAQ=true:=by decide +kernel
theorem zGC:zBG xml3=true:=by decide +kernel
theorem zDk:decl zAQ=some []:=by decide +kernel
theorem zEQ (p:List UInt8):decl (zAQ++58::p)=some p:=by
 unfold decl;rw [zCP (zCN zB9)]
 simp
theorem zFZ {a b:List UInt8} (h:zBG a=true) (hne:a≠zAQ):decl (a++58::b)=none:=by
 unfold decl;rw [zCP (zCN h)]
 simp [hne]
theorem zIJ {a:At}:zDv a=true↔zBG a.name=true∧(a.space=[]→a.name≠zAQ)∧a.space≠zAc:=by
 unfold zDv;simp only [Bool.and_eq_true,Bool.not_eq_true',Bool.and_eq_false_iff,decide_eq_true_eq,decide_eq_false_iff_not,and_assoc];refine and_congr Iff.rfl (and_congr ⟨fun h e=>?_,fun h=>?_⟩ Iff.rfl)
 · rcases h with h | h
   · exact absurd e h
   · exact h
 · by_cases e:a.space=[]
   · exact .inr (h e)
   · exact .inl e
theorem zCt {n:Nd}:zCT n=true↔(n.kind=1→zBG n.name=true)∧n.space≠zAr∧n.space≠zAc∧∀a∈n.attrs,zBG a.name=true∧(a.space=[]→a.name≠zAQ)∧a.space≠zAc:=by
 unfold zCT;simp only [Bool.and_eq_true,Bool.or_eq_true,decide_eq_true_eq,and_assoc,List.all_eq_true];refine and_congr ⟨fun h e=>?_,fun h=>?_⟩ (and_congr Iff.rfl (and_congr Iff.rfl ⟨fun h a ha=>zIJ.1 (h a ha),fun h a ha=>zIJ.2 (h a ha)⟩))
 · rcases h with h | h
   · exact absurd e h
   · exact h
 · by_cases e:n.kind=1
   · exact .inr (h e)
   · exact .inl e
theorem zBy:∀(l m:List At) (p:List UInt8),zBa (l++m) p=match zBa l p with | some v=>some v | none=>zBa m p
 | [],m,p=>rfl
 | a::l,m,p=>by
  rw [List.cons_append,zBa,zBa]
  by_cases h:decl a.name=some p
  · rw [if_pos h,if_pos h]
  · rw [if_neg h,if_neg h]
    exact zBy l m p
theorem zDp:∀{l:List At} {p:List UInt8},(∀a∈l,decl a.name≠some p)→zBa l p=none
 | [],p,_=>rfl
 | a::l,p,h=>by
  rw [zBa,if_neg (h a List.mem_cons_self)];exact zDp fun b hb=>h b (List.mem_cons_of_mem _ hb)
theorem zEd:∀{l:List At} {p v:List UInt8},zBa l p=some v→∃a∈l,decl a.name=some p∧a.value=v
 | [],p,v,h=>by cases h
 | a::l,p,v,h=>by
  rw [zBa] at h
  by_cases hd:decl a.name=some p
  · rw [if_pos hd] at h
    exact ⟨a,List.mem_cons_self,hd,Option.some.inj h⟩
  · rw [if_neg hd] at h
    obtain ⟨b,hb,h1⟩:=zEd h;exact ⟨b,List.mem_cons_of_mem _ hb,h1⟩
theorem zCi:∀{i:Nat} {S:List (List UInt8)} {a:At},a∈numD i S→∃(j:Nat) (hj:j < S.length),a=⟨[],zAQ++58::zBf (i+j),S[j]⟩
 | _,[],a,h=>by cases h
 | i,s::S,a,h=>by
  rw [numD] at h;rcases List.mem_cons.1 h with rfl | h
  · exact ⟨0,by simp,rfl⟩
  · obtain ⟨j,hj,e⟩:=zCi h
    exact ⟨j+1,by simp;omega,by rw [e];simp;congr 1;omega⟩
theorem zDD:∀(i:Nat) (S:List (List UInt8)),(numD i S).length=S.length
 | _,[]=>rfl
 | i,s::S=>by rw [numD,List.length_cons,zDD,List.length_cons]
theorem zHu:∀(i:Nat) (S:List (List UInt8)) (j:Nat) (hj:j < S.length),zBa (numD i S) (zBf (i+j))=some S[j]
 | _,[],j,hj=>absurd hj (Nat.not_lt_zero _)
 | i,s::S,0,_=>by rw [numD,zBa];exact if_pos (zEQ (zBf i))
 | i,s::S,j+1,hj=>by
  rw [numD,zBa,if_neg]
  · have:=zHu (i+1) S j (by simpa using hj)
    rw [show i+1+j=i+(j+1) by omega] at this;rw [this]
    rfl
  · rw [zEQ]
    intro h;have:=zG2 (Option.some.inj h)
    omega
theorem zBQ:∀(l:List At) (acc:List (List UInt8)),(∀s∈acc,s∈zAn acc l)∧(∀a∈l,a.space≠[]→a.space≠zAr→a.space∈zAn acc l)∧∀s∈zAn acc l,s∈acc∨∃a∈l,a.space=s∧s≠[]∧s≠zAr
 | [],acc=>⟨fun s h=>h,(fun a h=>by cases h),fun s h=>.inl h⟩
 | a::l,acc=>by
  rw [zAn]
  by_cases h:a.space=[]∨a.space=zAr∨a.space∈acc
  · rw [if_pos h]
    obtain ⟨h1,h2,h3⟩:=zBQ l acc;refine ⟨h1,fun b hb k1 k2=>?_,fun s hs=>?_⟩
    · rcases List.mem_cons.1 hb with rfl | hb
      · rcases h with h | h | h
        · exact absurd h k1
        · exact absurd h k2
        · exact h1 _ h
      · exact h2 b hb k1 k2
    · rcases h3 s hs with k | ⟨b,hb,k⟩
      · exact .inl k
      · exact .inr ⟨b,List.mem_cons_of_mem _ hb,k⟩
  · rw [if_neg h]
    obtain ⟨h1,h2,h3⟩:=zBQ l (acc++[a.space]);refine ⟨fun s hs=>h1 s (List.mem_append.2 (.inl hs)),fun b hb k1 k2=>?_,fun s hs=>?_⟩
    · rcases List.mem_cons.1 hb with rfl | hb
      · exact h1 _ (List.mem_append.2 (.inr (List.mem_singleton.2 rfl)))
      · exact h2 b hb k1 k2
    · rcases h3 s hs with k | ⟨b,hb,k⟩
      · rcases List.mem_append.1 k with k | k
        · exact .inl k
        · obtain rfl:=List.mem_singleton.1 k
          exact .inr ⟨a,List.mem_cons_self,rfl,fun e=>h (.inl e),fun e=>h (.inr (.inl e))⟩
      · exact .inr ⟨b,List.mem_cons_of_mem _ hb,k⟩
theorem zDw (S:List (List UInt8)) {a:At} (h:zBG a.name=true∧(a.space=[]→a.name≠zAQ)∧a.space≠zAc):decl (zBF S a).name=none:=by
 unfold zBF
 by_cases h1:a.space=[]
 · rw [if_pos h1]
   show decl a.name=none;unfold decl;rw [zC0 h.1];exact if_neg (h.2.1 h1)
 · rw [if_neg h1]
   by_cases h2:a.space=zAr
   · rw [if_pos h2]
     exact zFZ zGC (by decide)
   · rw [if_neg h2]
     exact zFZ (zC6 _) (zDh _).2.2
theorem zGp (outer:List UInt8) (n:Nd) (E:List (List At)) (hn:∀a∈n.attrs,zBG a.name=true∧(a.space=[]→a.name≠zAQ)∧a.space≠zAc) (h0:zA0 E []=(outer,true)) (h3:zA0 E xml3=(zAr,true)) :
 zA0 (zBN outer n::E) []=(n.space,true)∧zA0 (zBN outer n::E) xml3=(zAr,true)∧∀i (hi:i < (zAn [] n.attrs).length),zA0 (zBN outer n::E) (zBf i)=((zAn [] n.attrs)[i],true):=by
 obtain ⟨S,hS⟩:∃S,zAn [] n.attrs=S:=⟨_,rfl⟩
 have hZ:∀p,zBa (n.attrs.map (zBF S)) p=none:=fun p=>zDp fun b hb=>by
  obtain ⟨a,ha,rfl⟩:=List.mem_map.1 hb;rw [zDw S (hn a ha)];intro h
  cases h
 have hY:∀p,(∀j,p≠zBf j)→zBa (numD 0 S) p=none:=fun p hp=>zDp fun b hb=>by
  obtain ⟨j,hj,rfl⟩:=zCi hb;rw [zEQ];intro h;exact hp _ (Option.some.inj h).symm
 have hX:∀p,p≠[]→zBa (ownD outer n) p=none:=fun p hp=>zDp fun b hb=>by
  unfold ownD at hb
  by_cases hs:n.space=outer
  · rw [if_pos hs] at hb;cases hb
  · rw [if_neg hs] at hb
    obtain rfl:=List.mem_singleton.1 hb;rw [zDk];intro h;exact hp (Option.some.inj h).symm
 unfold zBN;rw [hS];refine ⟨?_,?_,fun i hi=>?_⟩
 · rw [zA0,zBy,zBy,hZ,hY [] (fun j=>(zDh j).1.symm)]
   unfold ownD
   by_cases hs:n.space=outer
   · rw [if_pos hs,hs]
     exact h0
   · rw [if_neg hs,zBa,if_pos zDk]
 · rw [zA0,zBy,zBy,hZ,hY xml3 (fun j=>(zDh j).2.1.symm),hX xml3 (by decide)]
   exact h3
 · rw [zA0,zBy,zBy,hX _ (zDh i).1]
   have:=zHu 0 S i hi;rw [Nat.zero_add] at this;rw [this]
theorem zGz (outer:List UInt8) (n:Nd) (E:List (List At)) (hn:∀a∈n.attrs,zBG a.name=true∧(a.space=[]→a.name≠zAQ)∧a.space≠zAc) (h0:zA0 E []=(outer,true)) (h3:zA0 E xml3=(zAr,true)) (a:At) (ha:a∈n.attrs) :
 atE (zBN outer n::E) (zBF (zAn [] n.attrs) a)=(a,true):=by
 obtain ⟨k0,k1,k2⟩:=zGp outer n E hn h0 h3;obtain ⟨_,hm,_⟩:=zBQ n.attrs [];obtain ⟨S,hS⟩:∃S,zAn [] n.attrs=S:=⟨_,rfl⟩;rw [hS] at k2 hm ⊢;have hna:=(hn a ha).1;unfold zBF
 by_cases h1:a.space=[]
 · rw [if_pos h1]
   unfold atE;dsimp only;rw [zC0 hna]
   cases a
   cases h1
   rfl
 · rw [if_neg h1]
   by_cases h2:a.space=zAr
   · rw [if_pos h2]
     unfold atE;dsimp only;rw [zCP (zCN zGC)];dsimp only;rw [k1]
     cases a
     cases h2
     rfl
   · rw [if_neg h2]
     unfold atE;dsimp only;rw [zCP (zCN (zC6 _))];dsimp only;have hi:S.idxOf a.space < S.length:=List.idxOf_lt_length_of_mem (hm a ha h1 h2);rw [k2 _ hi,List.getElem_idxOf]
theorem zHl (E:List (List At)):∀(D Z acc:List At),(∀a∈D,∃p,decl a.name=some p∧zB3 p a.value=true)→atsE E acc (D++Z)=atsE E acc Z
 | [],Z,acc,_=>rfl
 | a::D,Z,acc,h=>by
  obtain ⟨p,h1,h2⟩:=h a List.mem_cons_self;rw [List.cons_append,atsE,h1];dsimp only;rw [h2,zHl E D Z acc fun b hb=>h b (List.mem_cons_of_mem _ hb),Bool.true_and]
theorem zQC {l:List At} {a:At} (h:∀b∈l,key b≠key a):hasK l a=false:=by
 unfold hasK;rw [List.any_eq_false];intro b hb
 simp [h b hb]
theorem zON {l:List At} {a:At}:hasK l a=true↔∃b∈l,key b=key a:=by
 unfold hasK;rw [List.any_eq_true]
 simp
theorem zJ7 (E:List (List At)) (g:At→At):∀(l acc:List At),(∀a∈l,atE E (g a)=(a,true)∧decl (g a).name=none)→((acc++l).map key).Nodup→atsE E acc (l.map g)=(acc++l,true)
 | [],acc,_,_=>by rw [List.append_nil];rfl
 | a::l,acc,h,hn=>by
  obtain ⟨h1,h2⟩:=h a List.mem_cons_self;rw [List.map_cons,atsE,h2];dsimp only;rw [h1];have hl:acc++a::l=(acc++[a])++l:=by simp
  rw [hl] at hn ⊢;rw [zJ7 E g l (acc++[a]) (fun b hb=>h b (List.mem_cons_of_mem _ hb)) hn,zQC]
  · rfl
  · intro b hb e
    rw [List.map_append,List.map_append] at hn;have h3:=(List.nodup_append.1 (List.nodup_append.1 hn).1).2.2;exact h3 (key b) (List.mem_map.2 ⟨b,hb,rfl⟩) (key a) (by simp) e
theorem zKb {v:List UInt8} (h1:v≠zAr) (h2:v≠zAc):zB3 [] v=true:=by
 unfold zB3;rw [if_neg (by decide)]
 simp [h1,h2]
 decide
theorem zKg {i:Nat} {v:List UInt8} (h0:v≠[]) (h1:v≠zAr) (h2:v≠zAc):zB3 (zBf i) v=true:=by
 obtain ⟨k1,k2,k3⟩:=zDh i;unfold zB3;rw [if_neg k2]
 simp [h0,h1,h2,k3]
theorem zFg (outer:List UInt8) (n:Nd) (h:zCT n=true):∀a∈ownD outer n++numD 0 (zAn [] n.attrs),∃p,decl a.name=some p∧zB3 p a.value=true:=by
 obtain ⟨_,h1,h2,h3⟩:=zCt.1 h;intro a ha;rcases List.mem_append.1 ha with ha | ha
 · unfold ownD at ha
   by_cases hs:n.space=outer
   · rw [if_pos hs] at ha;cases ha
   · rw [if_neg hs] at ha
     obtain rfl:=List.mem_singleton.1 ha;exact ⟨[],zDk,zKb h1 h2⟩
 · obtain ⟨j,hj,rfl⟩:=zCi ha
   refine ⟨_,zEQ _,?_⟩;rcases (zBQ n.attrs []).2.2 _ (List.getElem_mem hj) with k | ⟨b,hb,e,k1,k2⟩
   · cases k
   · exact zKg k1 k2 (by rw [←e];exact (h3 b hb).2.2)
theorem zMZ:Undo zCQ zA3 resF zBe (fun outer E=>zA0 E []=(outer,true)∧zA0 E xml3=(zAr,true)) (fun n=>zCT n=true):=⟨fun outer E n hR hQ hn hk hf=>by
 obtain ⟨q0,q1,q2,q3⟩:=zCt.1 hQ;obtain ⟨k0,k1,_⟩:=zGp outer n E q3 hR.1 hR.2;obtain ⟨o1,o2,o3,o4⟩:=zCj hn hk;refine ⟨rfl,rfl,?_,k0,k1⟩;show ndE (zBN outer n::E) (zCy outer n)=(n,true)
 have hA:atsE (zBN outer n::E) [] (zBN outer n)=(n.attrs,true):=by
  obtain ⟨E2,hE2⟩:∃E2,zBN outer n::E=E2:=⟨_,rfl⟩;have ha:∀a∈n.attrs,atE E2 (zBF (zAn [] n.attrs) a)=(a,true)∧decl (zBF (zAn [] n.attrs) a).name=none:=fun a ha=>⟨by rw [←hE2];exact zGz outer n E q3 hR.1 hR.2 a ha,zDw _ (q3 a ha)⟩
  rw [hE2];unfold zBN;rw [←List.append_assoc,zHl E2 _ _ _ (zFg outer n hQ)];exact zJ7 E2 _ n.attrs [] ha (by rw [List.nil_append];exact (zCF.1 o4).2.1)
 unfold ndE;have e1:(zCy outer n).attrs=zBN outer n:=rfl
 have e2:zHQ (zCy outer n).name=([],n.name):=by
  unfold zHQ;show (match cutC n.name with | some x=>x | none=>([],n.name))=_;rw [zC0 (q0 hk)]
 rw [e1,hA,e2];dsimp only;rw [k0]
 cases n
 cases hk
 cases o2
 rfl⟩
theorem zLE (outer:List UInt8) (n:Nd) (h:zCT n=true) (hn:(n.attrs.map key).Nodup):((zBN outer n).map key).Nodup:=by
 obtain ⟨_,_,_,q3⟩:=zCt.1 h;obtain ⟨E,hE⟩:∃E,zBN outer n::[[⟨[],zAQ,outer⟩]]=E:=⟨_,rfl⟩
 have hat:∀a∈n.attrs,atE E (zBF (zAn [] n.attrs) a)=(a,true):=fun a ha=>by
  rw [←hE];exact zGz outer n _ q3 (by rw [zA0,zBa,if_pos zDk]) (by rw [zA0,zBa,if_neg (by rw [zDk];decide)];decide +kernel) a ha
 have hks:∀a∈zBN outer n,a.space=[]:=fun a ha=>by
  unfold zBN at ha;rcases List.mem_append.1 ha with ha | ha
  · unfold ownD at ha
    split at ha
    · cases ha
    · obtain rfl:=List.mem_singleton.1 ha;rfl
  · rcases List.mem_append.1 ha with ha | ha
    · obtain ⟨j,hj,rfl⟩:=zCi ha;rfl
    · obtain ⟨b,hb,rfl⟩:=List.mem_map.1 ha
      unfold zBF
      split
      · rfl
      · split <;> rfl
 obtain ⟨S,hS⟩:∃S,zAn [] n.attrs=S:=⟨_,rfl⟩
 have hnum:∀(S:List (List UInt8)) (i:Nat),((numD i S).map key).Nodup:=fun S=>by
  induction S with
  | nil=>intro i;exact List.nodup_nil
  | cons s S ih =>
   intro i;rw [numD,List.map_cons,List.nodup_cons];refine ⟨fun hm=>?_,ih _⟩;obtain ⟨b,hb,e⟩:=List.mem_map.1 hm;obtain ⟨j,hj,rfl⟩:=zCi hb;have e2:=congrArg Prod.snd e;have e2:zAQ++58::zBf (i+1+j)=zAQ++58::zBf i:=e2;have e3:=List.append_cancel_left e2;injection e3 with _ e3;have:=zG2 e3
   omega
 have hold:∀a∈n.attrs,∀b,b∈ownD outer n++numD 0 S→key b≠key (zBF S a):=fun a ha b hb e=>by
  have e2:=congrArg Prod.snd e;have e2:b.name=(zBF S a).name:=e2;have hd:=zDw S (q3 a ha);rw [←e2] at hd;rw [←hS] at hb;obtain ⟨p,hp,_⟩:=zFg outer n h b hb;rw [hd] at hp
  cases hp
 unfold zBN;rw [hS] at hat ⊢;rw [←List.append_assoc,List.map_append,List.nodup_append];refine ⟨?_,?_,fun x hx y hy e=>?_⟩
 · rw [List.map_append,List.nodup_append]
   refine ⟨?_,hnum S 0,fun x hx y hy e=>?_⟩
   · unfold ownD
     split
     · exact List.nodup_nil
     · simp
   · obtain ⟨b,hb,rfl⟩:=List.mem_map.1 hx
     obtain ⟨c,hc,rfl⟩:=List.mem_map.1 hy;unfold ownD at hb
     split at hb
     · cases hb
     · obtain rfl:=List.mem_singleton.1 hb
       obtain ⟨j,hj,rfl⟩:=zCi hc;have e2:=congrArg (fun k:List UInt8 × List UInt8=>k.2.length) e
       simp [key] at e2
 · rw [List.map_map]
   have hb:((n.attrs.map (key ∘ zBF S)).map fun k=>key (atE E ⟨[],k.2,[]⟩).1)=n.attrs.map key:=by
    rw [List.map_map];refine List.map_congr_left fun a ha=>?_
    have h1:=hat a ha
    have h2:∀(c:At) (v:List UInt8),key (atE E ⟨[],c.name,v⟩).1=key (atE E c).1:=fun c v=>by
     unfold atE;dsimp only
     split <;> rfl
    show key (atE E ⟨[],(zBF S a).name,[]⟩).1=key a;rw [h2,h1]
   have hn2:=hn;rw [←hb] at hn2;exact (List.pairwise_map.1 hn2).imp fun hne e=>hne (by rw [e])
 · obtain ⟨b,hb,rfl⟩:=List.mem_map.1 hx
   obtain ⟨c,hc,rfl⟩:=List.mem_map.1 hy;obtain ⟨a,ha,rfl⟩:=List.mem_map.1 hc;exact hold a ha b hb e
theorem zN5:okT zAr=true:=by decide +kernel
theorem zFc:zOk zCQ zA3 (fun _=>True) (fun n=>zCT n=true) (fun n=>rawN n=true):=⟨fun outer n _ hQ hn hk hf=>by
 obtain ⟨q0,q1,q2,q3⟩:=zCt.1 hQ;obtain ⟨o1,o2,o3,o4⟩:=zCj hn hk;obtain ⟨a1,a2,a3⟩:=zCF.1 o4;have hl:(zBN outer n).length≤16:=of_decide_eq_true hf
 have hall:∀b∈zBN outer n,b.space=[]∧zAP b.name=true∧okT b.value=true:=fun b hb=>by
  unfold zBN at hb;rcases List.mem_append.1 hb with hb | hb
  · unfold ownD at hb
    split at hb
    · cases hb
    · obtain rfl:=List.mem_singleton.1 hb
      exact ⟨rfl,zC8 zB9,o3⟩
  · rcases List.mem_append.1 hb with hb | hb
    · obtain ⟨j,hj,rfl⟩:=zCi hb
      refine ⟨rfl,zGe zB9 (zC6 _),?_⟩;rcases (zBQ n.attrs []).2.2 _ (List.getElem_mem hj) with k | ⟨c,hc,e,_⟩
      · cases k
      · show okT (zAn [] n.attrs)[j]=true
        rw [←e];exact (a1 c hc).2.2
    · obtain ⟨a,ha,rfl⟩:=List.mem_map.1 hb
      have h1:=(q3 a ha).1;unfold zBF
      split
      · exact ⟨rfl,zC8 h1,(a1 a ha).2.1⟩
      · split
        · exact ⟨rfl,zGe zGC h1,(a1 a ha).2.1⟩
        · exact ⟨rfl,zGe (zC6 _) h1,(a1 a ha).2.1⟩
 refine ⟨zLj o1 zGd (zCF.2 ⟨fun b hb=>⟨(hall b hb).2.1,(hall b hb).2.2,by rw [(hall b hb).1];exact zGd⟩,zLE outer n hQ a2,hl⟩),rfl,rfl,?_,trivial⟩;unfold rawN;rw [Bool.and_eq_true,List.all_eq_true];exact ⟨rfl,fun b hb=>by rw [(hall b hb).1];rfl⟩,fun n hQ hn hk=>by
 obtain ⟨_,_,h3,h4,_,_⟩:=zA6 hn hk;unfold rawN;rw [h3,h4]
 rfl⟩
def okE (E:List (List At)):Prop:=∀p,(zA0 E p).2=true→okT (zA0 E p).1=true∧(zA0 E p).1≠zAc∧(p≠[]→(zA0 E p).1≠[])
theorem zQE:okE []:=fun p h=>by
 rw [zA0] at h ⊢
 by_cases h3:p=xml3
 · rw [if_pos h3] at h ⊢
   exact ⟨zN5,by decide,fun _=>by decide⟩
 · rw [if_neg h3] at h ⊢
   exact ⟨zGd,(by decide:([]:List UInt8)≠zAc),fun hp=>absurd (of_decide_eq_true h) hp⟩
theorem zLs {p v:List UInt8} (h:zB3 p v=true):v≠zAc∧(p≠[]→v≠[]):=by
 unfold zB3 at h
 by_cases h3:p=xml3
 · rw [if_pos h3] at h
   have:=of_decide_eq_true h;rw [this];exact ⟨by decide,fun _=>by decide⟩
 · rw [if_neg h3] at h
   simp only [Bool.and_eq_true,Bool.or_eq_true,decide_eq_true_eq] at h;exact ⟨h.1.2,fun hp=>h.2.resolve_left hp⟩
theorem zJF (E:List (List At)):∀(l acc:List At),(atsE E acc l).2=true→(acc.map key).Nodup →
 (∀a∈l,∀p,decl a.name=some p→zB3 p a.value=true)∧(∀b∈(atsE E acc l).1,b∈acc∨∃a∈l,decl a.name=none∧(atE E a).2=true∧b=(atE E a).1)∧((atsE E acc l).1.map key).Nodup∧(atsE E acc l).1.length≤acc.length+l.length
 | [],acc,h,hn=>⟨fun a ha=>(by cases ha),fun b hb=>.inl hb,hn,Nat.le_refl _⟩
 | a::l,acc,h,hn=>by
  rw [atsE] at h ⊢
  cases hd:decl a.name with
  | some p =>
   rw [hd] at h;dsimp only at h ⊢;rw [Bool.and_eq_true] at h;obtain ⟨h1,h2,h3,h4⟩:=zJF E l acc h.2 hn;refine ⟨fun b hb q hq=>?_,fun b hb=>?_,h3,by rw [List.length_cons];omega⟩
   · rcases List.mem_cons.1 hb with rfl | hb
     · rw [hd] at hq
       rw [←Option.some.inj hq];exact h.1
     · exact h1 b hb q hq
   · rcases h2 b hb with k | ⟨c,hc,k⟩
     · exact .inl k
     · exact .inr ⟨c,List.mem_cons_of_mem _ hc,k⟩
  | none =>
   rw [hd] at h;dsimp only at h ⊢;rw [Bool.and_eq_true,Bool.and_eq_true] at h
   have hno:∀b∈acc,key b≠key (atE E a).1:=fun b hb e=>by
    have:=h.1.2;rw [zON.2 ⟨b,hb,e⟩] at this
    cases this
   obtain ⟨h1,h2,h3,h4⟩:=zJF E l (acc++[(atE E a).1]) h.2 (by
    rw [List.map_append,List.nodup_append];refine ⟨hn,by simp,fun x hx y hy e=>?_⟩;obtain ⟨b,hb,rfl⟩:=List.mem_map.1 hx;obtain rfl:=List.mem_singleton.1 hy;exact hno b hb e)
   refine ⟨fun b hb q hq=>?_,fun b hb=>?_,h3,by rw [List.length_append,List.length_singleton] at h4;rw [List.length_cons];omega⟩
   · rcases List.mem_cons.1 hb with rfl | hb
     · rw [hd] at hq;cases hq
     · exact h1 b hb q hq
   · rcases h2 b hb with k | ⟨c,hc,k⟩
     · rcases List.mem_append.1 k with k | k
       · exact .inl k
       · obtain rfl:=List.mem_singleton.1 k
         exact .inr ⟨a,List.mem_cons_self,hd,h.1.1,rfl⟩
     · exact .inr ⟨c,List.mem_cons_of_mem _ hc,k⟩
def zRl (m:Nd):Prop:=(m.kind=1→zBG m.name=true)∧m.space≠zAc∧∀a∈m.attrs,zBG a.name=true∧(a.space=[]→a.name≠zAQ)∧a.space≠zAc
theorem zE7 {l a b:List UInt8} (h:zAP l=true) (hc:cutC l=some (a,b)):zBG a=true∧zBG b=true:=by
 unfold zAP at h;rw [hc] at h;simp only [Bool.and_eq_true] at h;exact ⟨h.2,h.1⟩
theorem zJQ {l:List UInt8} (h:zAP l=true) (hc:cutC l=none):zBG l=true:=by
 unfold zAP at h;rw [hc] at h;exact h
theorem zNz {E:List (List At)} {l:List At} (h:okE E) (h1:∀a∈l,∀p,decl a.name=some p→zB3 p a.value=true) (h2:∀a∈l,okT a.value=true):okE (l::E):=fun p hp=>by
 rw [zA0] at hp ⊢
 cases hd:zBa l p with
 | none=>rw [hd] at hp;exact h p hp
 | some v =>
  obtain ⟨a,ha,k1,rfl⟩:=zEd hd;obtain ⟨j1,j2⟩:=zLs (h1 a ha p k1);exact ⟨h2 a ha,j1,j2⟩
theorem zNY:zOk resF zBe okE (fun _=>True) zRl:=⟨fun E n hP _ hn hk hf=>by
 obtain ⟨o1,o2,o3,o4⟩:=zCj hn hk;obtain ⟨a1,a2,a3⟩:=zCF.1 o4;have hf:((zA0 (n.attrs::E) (zHQ n.name).1).2&&(atsE (n.attrs::E) [] n.attrs).2)=true:=hf;rw [Bool.and_eq_true] at hf;obtain ⟨k1,k2,k3,k4⟩:=zJF (n.attrs::E) n.attrs [] hf.2 List.nodup_nil;have hE2:okE (n.attrs::E):=zNz hP k1 fun a ha=>(a1 a ha).2.1
 have hnm:zBG (zHQ n.name).2=true:=by
  unfold zHQ
  cases hc:cutC n.name with
  | none=>exact zJQ o1 hc
  | some x=>exact (zE7 (a:=x.1) (b:=x.2) o1 hc).2
 obtain ⟨s1,s2,_⟩:=hE2 _ hf.1
 have hb:∀b∈(atsE (n.attrs::E) [] n.attrs).1,zBG b.name=true∧(b.space=[]→b.name≠zAQ)∧b.space≠zAc∧okT b.value=true∧okT b.space=true:=fun b hb=>by
  rcases k2 b hb with k | ⟨a,ha,hd,ht,rfl⟩
  · cases k
  · unfold atE at ht ⊢
    cases hc:cutC a.name with
    | none =>
     refine ⟨zJQ (a1 a ha).1 hc,fun _ e=>?_,(by decide:([]:List UInt8)≠zAc),(a1 a ha).2.1,zGd⟩;unfold decl at hd;rw [hc] at hd;dsimp only at hd e;rw [if_pos e] at hd
     cases hd
    | some x =>
     obtain ⟨x,y⟩:=x;rw [hc] at ht;dsimp only at ht ⊢;obtain ⟨j1,j2⟩:=zE7 (a1 a ha).1 hc;obtain ⟨t1,t2,t3⟩:=hE2 x ht;exact ⟨j2,fun e=>absurd e (t3 (fun e=>by rw [e] at j1;cases j1)),t2,(a1 a ha).2.1,t1⟩
 refine ⟨zLj (zC8 hnm) s1 (zCF.2 ⟨fun b h=>⟨zC8 (hb b h).1,(hb b h).2.2.2.1,(hb b h).2.2.2.2⟩,k3,?_⟩),rfl,rfl,⟨fun _=>hnm,s2,fun b h=>⟨(hb b h).1,(hb b h).2.1,(hb b h).2.2.1⟩⟩,hE2⟩;have h0:([]:List At).length=0:=rfl
 omega,fun n _ hn hk=>by
 obtain ⟨_,_,h3,h4,_,_⟩:=zA6 hn hk;refine ⟨fun e=>by omega,by rw [h3];decide,fun a ha=>?_⟩;rw [h4] at ha
 cases ha⟩
theorem zF4 {ε:Type} {f:ε→Nd→Nd × Bool} {dn:ε→Nd→ε} {P:ε→Prop} {Q W:Nd→Prop} (hs:zOk f dn P Q W) {v:List Nd} {e:ε} (hv:mayV v=true) (hQ:∀n∈v,Q n) (hP:P e) (hw:(zAK f dn 12 e v).1.2=true):mayV (zAK f dn 12 e v).1.1=true∧(zAK f dn 12 e v).1.1.length=v.length∧∀m∈(zAK f dn 12 e v).1.1,W m:=by
 obtain ⟨h1,⟨n,l,rfl,hk⟩,h3⟩:=zAs.1 hv;obtain ⟨k1,k2,n',l',m,t,e1,e2,e3⟩:=zIk hs 12 _ [] (n::l) e h3 (by rw [List.append_nil]) hQ hP hw;have hl:=(zBC (f:=f) (dn:=dn) 12 _ _ e h3).2;have h0:([]:List Nd).length=0:=rfl;injection e1 with e1 _;subst e1;refine ⟨zAs.2 ⟨by omega,⟨m,t,e2,by rw [e3,hk]⟩,?_⟩,by omega,k2⟩;have:=k1 [];rw [List.append_nil] at this;exact this
theorem zEZ {v:List Nd}:mayS v=true↔(∀n∈v,zCT n=true)∧mayV v=true:=by
 unfold mayS;rw [Bool.and_eq_true,List.all_eq_true]
theorem zL7 {v a:List Nd} (h:zCS v []=(a,0)):zA5 a=(v,0)∧mayV a=true∧rawV a=true∧mayS v=true∧a.length=v.length:=by
 unfold zCS at h
 split at h
 · rename_i hc
   split at h
   · rename_i hw
     obtain ⟨rfl,_⟩:=(Prod.mk.injEq _ _ _ _).mp h;obtain ⟨hQ,hv⟩:=zEZ.1 hc.1;unfold zGr at hw ⊢;obtain ⟨k1,k2,k3⟩:=zF4 zFc hv hQ trivial hw;have hraw:rawV (zAK zCQ zA3 12 [] v).1.1=true:=by unfold rawV;rw [List.all_eq_true];exact k3
     have hu:=zK6 zMZ 12 v [] v [] [] (zAs.1 hv).2.2 (by rw [List.append_nil]) hQ ⟨rfl,by decide +kernel⟩ hw [];rw [List.append_nil] at hu;refine ⟨?_,k1,hraw,hc.1,k2⟩;unfold zA5 resW;rw [if_pos ⟨k1,hraw⟩,hu]
     rfl
   · have:=congrArg Prod.snd h
     cases this
 · have:=congrArg Prod.snd h
   cases this
theorem zQW {r c:List Nd} (h:zA5 r=(c,0)):mayV c=true∧c.length=r.length∧(∀m∈c,zRl m)∧(mayS c=true∨∃m∈c,m.space=zAr):=by
 unfold zA5 at h
 split at h
 · rename_i hc
   split at h
   · rename_i hw
     obtain ⟨rfl,_⟩:=(Prod.mk.injEq _ _ _ _).mp h;unfold resW at hw ⊢;obtain ⟨k1,k2,k3⟩:=zF4 zNY hc.1 (fun _ _=>trivial) zQE hw;refine ⟨k1,k2,k3,?_⟩
     by_cases hx:∃m∈(zAK resF zBe 12 [] r).1.1,m.space=zAr
     · exact .inr hx
     · left
       refine zEZ.2 ⟨fun m hm=>zCt.2 ⟨(k3 m hm).1,fun e=>hx ⟨m,hm,e⟩,(k3 m hm).2.1,(k3 m hm).2.2⟩,k1⟩
   · have:=congrArg Prod.snd h
     cases this
 · have:=congrArg Prod.snd h
   cases this
theorem zNP {r c:List Nd} {e:Int} (h:zA5 r=(c,e)) (he:e≠0):c=[]∧(e=8∨e=110):=by
 unfold zA5 at h
 split at h
 · split at h
   · exact absurd ((Prod.mk.injEq _ _ _ _).mp h).2.symm he
   · obtain ⟨rfl,rfl⟩:=(Prod.mk.injEq _ _ _ _).mp h;exact ⟨rfl,.inr rfl⟩
 · obtain ⟨rfl,rfl⟩:=(Prod.mk.injEq _ _ _ _).mp h;exact ⟨rfl,.inl rfl⟩
end Ns
namespace Hx
structure Cod (α:Type) where
 k:Nat
 R:World→Nat→List Value→α→Prop
 len:∀{w:World} {B:Nat} {cs:List Value} {x:α},R w B cs x→cs.length=k
 keep:∀{w w':World} {B B':Nat} {cs:List Value} {x:α},R w B cs x→B≤B'→(∀b o,b < B→w'.cell? ⟨b,o,none⟩=w.cell? ⟨b,o,none⟩)→R w' B' cs x
def RdC {α:Type} (C:Cod α) (w:World) (B:Nat) (A:Option Addr) (l:List α):Prop :=
 0 < l.length→∃b off,A=some ⟨b,off,none⟩∧b < B∧∀j (h:j < l.length),∃cs,C.R w B cs (l[j]'h)∧∀i (hi:i < cs.length),w.cell? ⟨b,off+j*C.k+i,none⟩=some (cs[i]'hi)
section
variable {α:Type} {C:Cod α}
theorem RdC.keep {w w':World} {B B':Nat} {A:Option Addr} {l:List α} (h:RdC C w B A l) (hB:B≤B') (hk:∀b o,b < B→w'.cell? ⟨b,o,none⟩=w.cell? ⟨b,o,none⟩):RdC C w' B' A l:=by
 intro hp;obtain ⟨b,off,e,hb,hc⟩:=h hp;refine ⟨b,off,e,by omega,fun j hj=>?_⟩;obtain ⟨cs,h1,h2⟩:=hc j hj;exact ⟨cs,C.keep h1 hB hk,fun i hi=>(hk _ _ hb).trans (h2 i hi)⟩
theorem RdC.below {w w':World} {B:Nat} {A:Option Addr} {l:List α} (h:RdC C w B A l) (hb:Below B w w'):RdC C w' B A l:=h.keep (Nat.le_refl _) fun b o hlt=>hb.cell (p:=⟨b,o,none⟩) hlt
theorem RdC.mono {w:World} {B B':Nat} {A:Option Addr} {l:List α} (h:RdC C w B A l) (hB:B≤B'):RdC C w B' A l:=h.keep hB fun _ _ _=>rfl
theorem RdC.on {w w':World} {A:Option Addr} {l:List α} (h:RdC C w w.heap.size A l) (hb:Below w.heap.size w w'):RdC C w' w'.heap.size A l:=(h.below hb).mono hb.size
theorem RdC.nil (w:World) (B:Nat) (A:Option Addr):RdC C w B A []:=fun h=>absurd h (by simp)
end
section
variable {H:Type} {enc:TypeId × Value→H} {P:Program}
end
theorem zEm {β:Type} (f:β→List Value) (k:Nat) (hk:∀b,(f b).length=k):∀(l:List β) (j i:Nat) (hj:j < l.length) (hi:i < k),(l.flatMap f)[j*k+i]?=some ((f (l[j]'hj))[i]'(by rw [hk];exact hi)):=by
 intro l
 induction l with
 | nil=>intro j i hj;simp at hj
 | cons b l ih =>
  intro j i hj hi;rw [List.flatMap_cons]
  cases j with
  | zero =>
   rw [Nat.zero_mul,Nat.zero_add,List.getElem?_append_left (by rw [hk];exact hi)];exact List.getElem?_eq_getElem _
  | succ j =>
   rw [List.getElem?_append_right (by rw [hk,Nat.succ_mul];omega),hk,show (j+1)*k+i - k=j*k+i by rw [Nat.succ_mul];omega];exact ih j i (by simpa using hj) hi
theorem zGB {β:Type} (f:β→List Value) (k:Nat) (hk:∀b,(f b).length=k) (l:List β):(l.flatMap f).length=l.length*k:=by
 induction l with
 | nil=>simp
 | cons b l ih=>rw [List.flatMap_cons,List.length_append,hk,ih,List.length_cons,Nat.succ_mul];omega
theorem RdC.of_own {α β:Type} {C:Cod α} {w:World} {base:Nat} {e:TypeId} {A:Option Addr} {n c:Nat} (f:β→List Value) (val:β→α) (hk:∀b,(f b).length=C.k) (hk0:0 < C.k) (l:List β) (hR:∀b∈l,C.R w w.heap.size (f b) (val b))
 (h:w.ownsRow base e C.k (.slice A n c) n (l.flatMap f)):RdC C w w.heap.size A (l.map val)∧l.length=n∧n≤c∧c≤maxLen∧(A=none→c=0):=by
 have hl:l.length=n:=by
  have:=h.1;rw [zGB f C.k hk] at this;exact Nat.eq_of_mul_eq_mul_right hk0 this
 rcases h.2 with ⟨e1,h0⟩ | ⟨g,cap,cur,hv,hb,hg,hnc,hcm,_,_⟩
 · injection e1 with e1 e2 e3
   subst e1 e3;have:l=[]:=List.eq_nil_of_length_eq_zero (by omega);subst this;exact ⟨RdC.nil _ _ _,hl,by omega,Nat.zero_le _,fun _=>rfl⟩
 · injection hv with e1 e2 e3
   subst e1 e3;have hlt:g < w.heap.size:=(Array.getElem?_eq_some_iff.1 hg).1;refine ⟨fun hp=>⟨g,0,rfl,hlt,fun j hj=>?_⟩,hl,hnc,hcm,fun h=>by cases h⟩;have hj':j < l.length:=by simpa using hj
   refine ⟨f (l[j]'hj'),by simpa using hR _ (List.getElem_mem hj'),fun i hi=>?_⟩;have hi':i < C.k:=by rw [hk] at hi;exact hi
   have:=h.cells (g:=g) rfl (j*C.k+i) _ (zEm f C.k hk l j i hj' hi');rw [zBB] at this;rw [Nat.zero_add,←this,Nat.zero_add]
end Hx
namespace Hx
open Lx
def PrC:Cod Pr where
 k:=2
 R _ _ cs p:=∃s t:ByteArray,cs=[.string s,.string t]∧s.data.toList=p.name∧t.data.toList=p.value
 len:=by rintro _ _ _ _ ⟨s,t,rfl,_⟩;rfl
 keep:=fun h _ _=>h
def TkC:Cod Tk where
 k:=4
 R w B cs t:=∃(s:ByteArray) (A:Option Addr) (c:Nat) (u:ByteArray),cs=[.int .u8 (t.kind:Int),.string s,.slice A t.attrs.length c,.string u]∧t.kind < 256∧s.data.toList=t.name∧u.data.toList=t.text∧t.attrs.length≤c∧c≤maxLen∧(A=none→c=0)∧RdC PrC w B A t.attrs
 len:=by rintro _ _ _ _ ⟨s,A,c,u,rfl,_⟩;rfl
 keep:=fun ⟨s,A,c,u,h1,h2,h3,h4,h5,h6,h7,h8⟩ hB hk=>⟨s,A,c,u,h1,h2,h3,h4,h5,h6,h7,h8.keep hB hk⟩
section
variable {H:Type} {enc:TypeId × Value→H}
end
end Hx
namespace Hx
theorem zAB {a b:World} {k:Nat} {o:Obj} (h:a.heap[k]?=some o) (hb:Below a.heap.size a b):b.heap[k]?=some o:=(hb.block k (Array.getElem?_eq_some_iff.1 h).1).trans h
theorem zAY {a:World} {k:Nat} {o:Obj} (h:a.heap[k]?=some o):k < a.heap.size:=(Array.getElem?_eq_some_iff.1 h).1
theorem zDo {B g:Nat} {w0 w:World} (hb:Below B w0 w) (hBg:B≤g) (cs:Array Value):Below B w0 (w.setRow g cs) :=
 hb.trans ⟨rfl,rfl,rfl,by simp [World.setRow],fun k hk=>setRow_other w g k cs (by omega)⟩
theorem zI5 {w w':World} {B M:Nat} {o:Obj} (h:w.heap[M]?=some o) (hb:Below B w w') (hM:M < B):w'.heap[M]?=some o:=(hb.block M hM).trans h
theorem zAj {w w' w0:World} {B n:Nat} (h0:Below n w0 w) (h:Below B w w') (hn:n≤B):Below n w0 w':=h0.trans (h.mono hn)
theorem zPK (w:World) (x y:Obj):({ w.alloc x with heap:=(w.alloc x).heap.setIfInBounds w.heap.size y }:World)=w.alloc y:=by
 have h:(w.heap.push x).setIfInBounds w.heap.size y=w.heap.push y:=by
  apply Array.ext_getElem?;intro i;rw [Array.getElem?_setIfInBounds,Array.getElem?_push,Array.getElem?_push]
  by_cases e:i=w.heap.size
  · subst e;simp
  · rw [if_neg (fun h=>e h.symm),if_neg e,if_neg e]
 show ({ w with heap:=(w.heap.push x).setIfInBounds w.heap.size y }:World)={ w with heap:=w.heap.push y };rw [h]
theorem zLL {P:Program} {w:World} {t k e:TypeId} {kd:TypeDesc} {es:Array MapEntry} {n:Nat} {key val:Value}
 (ht:P.underlying t=some (.map k e)) (hk:P.underlying k=some kd) (hkd:MapKept.IsKey kd key) (hf:Instr.findNow kd key es.toList 0=some none) :
 (Instr.mapUpdate t (.map (some w.heap.size)) key val).run P (w.alloc (.map es n))=.ok () (w.alloc (.map (es.push ⟨key,val,n⟩) (n+1))):=by
 have hb:(w.alloc (.map es n)).heap[w.heap.size]?=some (.map es n):=heap_alloc_new w _;have hc:=MapKept.run_checkKey (w:=w.alloc (.map es n)) hk hkd false 9999
 have hfk:(Instr.findKey k key es.toList).run P (w.alloc (.map es n))=.ok none (w.alloc (.map es n)):=by
  simp [Instr.findKey,run_underlying hk,hf,Result.andThen]
 simp [Instr.mapUpdate,run_underlying ht,MapKept.run_getObj_map hb,hc,hfk,MapKept.run_setObj_map _ hb,Result.andThen]
 exact zPK w _ _
theorem zLC {P:Program} {w:World} {t k e:TypeId} {kd:TypeDesc} {es:Array MapEntry} {n b:Nat} {key val:Value} (hb:w.heap.size=b)
 (ht:P.underlying t=some (.map k e)) (hk:P.underlying k=some kd) (hkd:MapKept.IsKey kd key) (hf:Instr.findNow kd key es.toList 0=some none) :
 (Instr.mapUpdate t (.map (some b)) key val).run P (w.alloc (.map es n))=.ok () (w.alloc (.map (es.push ⟨key,val,n⟩) (n+1))):=by
 subst hb;exact zLL ht hk hkd hf
def zNr (z:Value):Option (Nat × Value)→Value
 | some (_,v)=>.tuple #[v,.bool true]
 | none=>.tuple #[z,.bool false]
theorem zJR {P:Program} {w:World} {t k e:TypeId} {kd:TypeDesc} {b:Nat} {es:Array MapEntry} {n:Nat} {key z:Value} {r:Option (Nat × Value)}
 (ht:P.underlying t=some (.map k e)) (hk:P.underlying k=some kd) (hkd:MapKept.IsKey kd key) (hb:w.heap[b]?=some (.map es n)) (he:es.isEmpty=false)
 (hz:(zeroValue e).run P w=.ok z w) (hf:Instr.findNow kd key es.toList 0=some r) :
 (Instr.lookup t (.map (some b)) key true).run P w=.ok (zNr z r) w:=by
 have hc:=MapKept.run_checkKey (w:=w) hk hkd es.isEmpty 9999
 have hfk:(Instr.findKey k key es.toList).run P w=.ok r w:=by
  simp [Instr.findKey,run_underlying hk,hf,Result.andThen]
 cases r with
 | none=>simp [Instr.lookup,run_underlying ht,MapKept.run_getObj_map hb,hc,hfk,hz,Result.andThen,zNr]
 | some p=>simp [Instr.lookup,run_underlying ht,MapKept.run_getObj_map hb,hc,hfk,Result.andThen,zNr]
theorem zCA {P:Program} {w:World} {ops:Array Oper} {rest:List Oper} {o:Oper} {a:Act} {Q:Exit→Act→World→Prop}
 (hg:o.guard=none) (m x v:Operand) (t:TypeId) (hop:o.op=Op.insert t m x v) {w':World} {mv kv vv:Value} (hm:a.eval m=mv) (hx:a.eval x=kv) (hv:a.eval v=vv)
 (hrun:(Instr.mapUpdate t mv kv vv).run P w=.ok () w') (hK:wpList P ops Q rest (a.put o.dst undef) w'):wpList P ops Q (o::rest) a w:=by
 refine wpList_plain hg fun K' hK'=>?_
 unfold Oper.wp
 simp [execOp,hop,hm,hx,hv,hrun,Result.andThen]
 exact hK' _ _ hK
theorem zCB {P:Program} {w:World} {ops:Array Oper} {rest:List Oper} {o:Oper} {a:Act} {Q:Exit→Act→World→Prop}
 (hg:o.guard=none) (m x:Operand) (t:TypeId) (hop:o.op=Op.lookup t m x true) {mv kv v:Value} (hm:a.eval m=mv) (hx:a.eval x=kv)
 (hrun:(Instr.lookup t mv kv true).run P w=.ok v w) (hK:wpList P ops Q rest (a.put o.dst v) w):wpList P ops Q (o::rest) a w:=by
 refine wpList_plain hg fun K' hK'=>?_
 unfold Oper.wp
 simp [execOp,hop,hm,hx,hrun,Result.andThen]
 exact hK' _ _ hK
end Hx
namespace Hx
open Lx Tr
structure CodS (α:Type) where
 k:Nat
 R:World→(Nat→Prop)→List Value→α→Prop
 len:∀{w:World} {S:Nat→Prop} {cs:List Value} {x:α},R w S cs x→cs.length=k
 one:∀{w:World} {S:Nat→Prop} {cs:List Value} {x:α},R w S cs x→∀v∈cs,v.oneCell'=true
 keep:∀{w w':World} {S S':Nat→Prop} {cs:List Value} {x:α},R w S cs x→(∀b,S b→S' b)→(∀b o,S b→w'.cell? ⟨b,o,none⟩=w.cell? ⟨b,o,none⟩)→R w' S' cs x
def RdS {α:Type} (C:CodS α) (w:World) (S:Nat→Prop) (A:Option Addr) (l:List α):Prop :=
 0 < l.length→∃b off,A=some ⟨b,off,none⟩∧S b∧∀j (h:j < l.length),∃cs,C.R w S cs (l[j]'h)∧∀i (hi:i < cs.length),w.cell? ⟨b,off+j*C.k+i,none⟩=some (cs[i]'hi)
def RdB {α:Type} (C:CodS α) (w:World) (A:Option Addr) (l:List α):Prop:=RdS C w (fun b=>b < w.heap.size) A l
section
variable {α:Type} {C:CodS α}
theorem RdS.keep {w w':World} {S S':Nat→Prop} {A:Option Addr} {l:List α} (h:RdS C w S A l) (hS:∀b,S b→S' b) (hk:∀b o,S b→w'.cell? ⟨b,o,none⟩=w.cell? ⟨b,o,none⟩):RdS C w' S' A l:=by
 intro hp;obtain ⟨b,off,e,hb,hc⟩:=h hp;refine ⟨b,off,e,hS b hb,fun j hj=>?_⟩;obtain ⟨cs,h1,h2⟩:=hc j hj;exact ⟨cs,C.keep h1 hS hk,fun i hi=>(hk _ _ hb).trans (h2 i hi)⟩
theorem RdS.mono {w:World} {S S':Nat→Prop} {A:Option Addr} {l:List α} (h:RdS C w S A l) (hS:∀b,S b→S' b):RdS C w S' A l:=h.keep hS fun _ _ _=>rfl
theorem RdS.nil (w:World) (S:Nat→Prop) (A:Option Addr):RdS C w S A []:=fun h=>absurd h (by simp)
theorem RdB.nil (w:World) (A:Option Addr):RdB C w A []:=RdS.nil _ _ _
theorem RdB.on {w w':World} {A:Option Addr} {l:List α} (h:RdB C w A l) (hb:Below w.heap.size w w'):RdB C w' A l :=
 RdS.keep h (fun b hlt=>Nat.lt_of_lt_of_le hlt hb.size) fun b o hlt=>hb.cell (p:=⟨b,o,none⟩) hlt
theorem RdS.at {w:World} {S:Nat→Prop} {A:Option Addr} {l:List α} {k:Nat} (h:RdS C w S A l) (hk:k < l.length) :
 ∃b off cs,A=some ⟨b,off,none⟩∧S b∧C.R w S cs (l[k]'hk)∧∀i (hi:i < cs.length),w.cell? ⟨b,off+k*C.k+i,none⟩=some (cs[i]'hi):=by
 obtain ⟨b,off,e,hb,hc⟩:=h (by omega);obtain ⟨cs,h1,h2⟩:=hc k hk;exact ⟨b,off,cs,e,hb,h1,h2⟩
end
def AtS:CodS At where
 k:=3
 R _ _ cs a:=∃x y z:ByteArray,cs=[.string x,.string y,.string z]∧x.data.toList=a.space∧y.data.toList=a.name∧z.data.toList=a.value
 len:=by rintro _ _ _ _ ⟨x,y,z,rfl,_⟩;rfl
 one:=by
  rintro _ _ _ _ ⟨x,y,z,rfl,_⟩ v hv
  simp at hv
  rcases hv with rfl | rfl | rfl <;> rfl
 keep:=fun h _ _=>h
def zBp (n:Nd) (x y z:ByteArray) (A:Option Addr) (c:Nat):List Value:=[.int .u8 (n.kind:Int),.string x,.string y,.slice A n.attrs.length c,.string z,.int .i64 n.many]
def NdV (n:Nd) (x y z:ByteArray) (A:Option Addr) (c:Nat):Value:=.agg #[.int .u8 (n.kind:Int),.string x,.string y,.slice A n.attrs.length c,.string z,.int .i64 n.many]
structure NdIn (n:Nd) (x y z:ByteArray) (A:Option Addr) (c:Nat) (w:World) (S:Nat→Prop):Prop where
 space:x.data.toList=n.space
 name:y.data.toList=n.name
 text:z.data.toList=n.text
 attrs:RdS AtS w S A n.attrs
 le:n.attrs.length≤c
 cm:c≤maxLen
 nil:A=none→c=0
 kd:n.kind < 256
 lo: -9223372036854775808≤n.many
 hi:n.many≤9223372036854775807
theorem NdIn.keep {n:Nd} {x y z:ByteArray} {A:Option Addr} {c:Nat} {w w':World} {S S':Nat→Prop} (h:NdIn n x y z A c w S) (hS:∀b,S b→S' b) (hk:∀b o,S b→w'.cell? ⟨b,o,none⟩=w.cell? ⟨b,o,none⟩):NdIn n x y z A c w' S' :=
 ⟨h.space,h.name,h.text,h.attrs.keep hS hk,h.le,h.cm,h.nil,h.kd,h.lo,h.hi⟩
def NdS:CodS Nd where
 k:=6
 R w S cs n:=∃(x y z:ByteArray) (A:Option Addr) (c:Nat),cs=zBp n x y z A c∧NdIn n x y z A c w S
 len:=by rintro _ _ _ _ ⟨x,y,z,A,c,rfl,_⟩;rfl
 one:=by
  rintro _ _ _ _ ⟨x,y,z,A,c,rfl,_⟩ v hv
  simp [zBp] at hv
  rcases hv with rfl | rfl | rfl | rfl | rfl | rfl <;> rfl
 keep:=fun ⟨x,y,z,A,c,h1,h2⟩ hS hk=>⟨x,y,z,A,c,h1,h2.keep hS hk⟩
def NdAt (n:Nd) (x y z:ByteArray) (A:Option Addr) (c:Nat) (w:World):Prop:=NdIn n x y z A c w (fun b=>b < w.heap.size)
theorem NdAt.on {n:Nd} {x y z:ByteArray} {A:Option Addr} {c:Nat} {w w':World} (h:NdAt n x y z A c w) (hb:Below w.heap.size w w'):NdAt n x y z A c w' :=
 NdIn.keep h (fun b hlt=>Nat.lt_of_lt_of_le hlt hb.size) fun b o hlt=>hb.cell (p:=⟨b,o,none⟩) hlt
theorem NdAt.rd {n:Nd} {x y z:ByteArray} {A:Option Addr} {c:Nat} {w:World} (h:NdAt n x y z A c w):RdB AtS w A n.attrs:=h.attrs
structure zAW (n:Nd):Prop where
 space:n.space.length≤1000000
 name:n.name.length≤1000000
 text:n.text.length≤1000000
 attrs:n.attrs.length≤1000000
 each:∀a∈n.attrs,a.space.length≤1000000∧a.name.length≤1000000∧a.value.length≤1000000
theorem zCL {w:World} {S:Nat→Prop} {A:Option Addr} {l:List Nd} {k:Nat} (hr:RdS NdS w S A l) (hk:k < l.length) :
 ∃(b off:Nat) (x y z:ByteArray) (A1:Option Addr) (c1:Nat),A=some ⟨b,off,none⟩∧S b∧NdIn (l[k]'hk) x y z A1 c1 w S ∧
  w.cell? ⟨b,off+k*6,none⟩=some (.int .u8 ((l[k]'hk).kind:Int))∧w.cell? ⟨b,off+k*6+1,none⟩=some (.string x)∧w.cell? ⟨b,off+k*6+2,none⟩=some (.string y) ∧
  w.cell? ⟨b,off+k*6+3,none⟩=some (.slice A1 (l[k]'hk).attrs.length c1)∧w.cell? ⟨b,off+k*6+4,none⟩=some (.string z)∧w.cell? ⟨b,off+k*6+5,none⟩=some (.int .i64 (l[k]'hk).many):=by
 obtain ⟨b,off,cs,e,hb,⟨x,y,z,A1,c1,rfl,hin⟩,hc⟩:=hr.at hk;exact ⟨b,off,x,y,z,A1,c1,e,hb,hin,hc 0 (by simp [zBp]),hc 1 (by simp [zBp]),hc 2 (by simp [zBp]),hc 3 (by simp [zBp]),hc 4 (by simp [zBp]),hc 5 (by simp [zBp])⟩
theorem zDL {w:World} {S:Nat→Prop} {A:Option Addr} {l:List At} {k:Nat} (hr:RdS AtS w S A l) (hk:k < l.length) :
 ∃(b off:Nat) (x y z:ByteArray),A=some ⟨b,off,none⟩∧S b∧x.data.toList=(l[k]'hk).space∧y.data.toList=(l[k]'hk).name∧z.data.toList=(l[k]'hk).value ∧
  w.cell? ⟨b,off+k*3,none⟩=some (.string x)∧w.cell? ⟨b,off+k*3+1,none⟩=some (.string y)∧w.cell? ⟨b,off+k*3+2,none⟩=some (.string z):=by
 obtain ⟨b,off,cs,e,hb,⟨x,y,z,rfl,h1,h2,h3⟩,hc⟩:=hr.at hk;exact ⟨b,off,x,y,z,e,hb,h1,h2,h3,hc 0 (by simp),hc 1 (by simp),hc 2 (by simp)⟩
section
variable {H:Type} {enc:TypeId × Value→H}
theorem zKL:prog.cellsOf 9=1∧prog.cellsOf 5=1∧prog.cellsOf 40=1∧prog.cellsOf 3=1∧prog.cellsOf 44=3∧prog.cellsOf 42=6:=⟨by kernel_rfl,by kernel_rfl,by kernel_rfl,by kernel_rfl,by kernel_rfl,by kernel_rfl⟩
end
end Hx
end Go.Proofs.YtlgppednjkbgiaaGreatDoor
