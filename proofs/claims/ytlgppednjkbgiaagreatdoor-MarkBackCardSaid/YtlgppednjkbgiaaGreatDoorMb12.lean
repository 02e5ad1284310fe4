/-
  Texts of one seat, put together: TrhB, TrhA, TrhC, TrhD, LexX, LexY.
-/
import Derived.Test.YtlgppednjkbgiaaGreatDoorMbA
import Derived.Test.YtlgppednjkbgiaaGreatDoorMb11
import Derived.Test.YtlgppednjkbgiaaGreatDoorMb04
import Derived.Test.YtlgppednjkbgiaaGreatDoorMb07
import Derived.Maps.AppendAt
set_option maxRecDepth 100000
set_option maxHeartbeats 16000000
set_option linter.unusedVariables false
namespace Go.Proofs.YtlgppednjkbgiaaGreatDoor
open Go.RowKit Go.Proofs.Tryz
namespace Hx
open Lx Tr Tx Nmb Es
theorem zFu {v:List Nd} (h:mayV v=true):zDI v=0:=by unfold zDI;rw [if_pos h]
theorem zG3 {v:List Nd} (h:mayV v=false):zDI v=8:=by unfold zDI;rw [h];rfl
theorem zE0 {d j m:Nat} {b b0:Bool} {l r0:List Nd} {v:List Nd} {p':Nat} (hall:zAG (zAE d) m false l=some (b0,r0)) (h:zAG (zAE d) j false l=some (b,v.drop p')) (hj:j < m) :
 ∃(hp:p' < v.length) (r:List Nd),zAE d (v.drop p')=some r∧zAG (zAE d) (j+1) false l=some (decide ((v[p']'hp).kind=2),v.drop (v.length - r.length))∧r.length+p' < v.length:=by
 obtain ⟨h1,h2⟩:=zHd h hj
 by_cases hp:p' < v.length
 · obtain ⟨h3,h4,h5⟩:=h2 hp
   have hb:¬(b=true∧(v[p']'hp).kind=2):=fun hb=>by rw [h3 hb] at hall;cases hall
   cases hr:zAE d (v.drop p') with
   | none=>rw [h4 hr] at hall;cases hall
   | some r =>
    have hk:=h5 r hb hr;have hsuf:=zD7 hr;have hlr:=zEs hr;rw [List.length_drop] at hsuf hlr;rw [List.drop_drop,show p'+(v.length - p' - r.length)=v.length - r.length by omega] at hsuf;exact ⟨hp,r,rfl,by rw [hk,←hsuf],by omega⟩
 · rw [h1 (by omega)] at hall;cases hall
end Hx
namespace Hx
open Lx Tx Nmb Es
theorem zIs {acc:List Pr} {y:List UInt8} {b:Bool} {at1:List Pr} {r:List UInt8} (h:TagI acc y b at1 r):∃p,y=p++r:=by
 induction h with
 | shut acc g x _=>exact ⟨g++[62],by simp⟩
 | bare acc g x _=>exact ⟨g++[47,62],by simp⟩
 | attr acc g l y p b at1 x _ _ ha _ _ ih =>
  obtain ⟨q,rfl⟩:=ih;obtain ⟨k,_,e⟩:=zH1 ha;refine ⟨g++(l.take k++q),?_⟩
  conv=>lhs;rw [←List.take_append_drop k l,←e]
  simp
theorem zJI {l r:List UInt8} {t:Tk} (h:tagL l=some (t,r)):r.length≤l.length∧∃k,k≤l.length∧r=l.drop k:=by
 obtain ⟨p,rfl⟩:∃p,l=p++r:=by
  rcases (zC3 _ _ _).1 h with ⟨g,rfl,_⟩ | ⟨b,y,rfl,_,hi,_⟩
  · exact ⟨47::(t.name++(g++[62])),by simp⟩
  · obtain ⟨q,rfl⟩:=zIs hi
    exact ⟨t.name++q,by simp⟩
 exact ⟨by simp,p.length,by simp,by rw [List.drop_left]⟩
theorem zNi:∀(f g n:Nat) (l:List UInt8),l.length≤f→l.length≤g→lexE f n l=lexE g n l:=by
 intro f
 induction f with
 | zero =>
  intro g n l h1 h2;obtain rfl:=List.eq_nil_of_length_eq_zero (Nat.le_zero.1 h1)
  cases g <;> rfl
 | succ f ih =>
  intro g n l h1 h2
  cases l with
  | nil=>cases g <;> rfl
  | cons c l =>
   cases g with
   | zero=>simp at h2
   | succ g =>
    unfold lexE
    cases ho:oneL (c::l) with
    | none=>rfl
    | some r =>
     obtain ⟨t,y⟩:=r;have hl:=zDA ho;rw [List.length_cons] at h1 h2 hl;dsimp only;rw [ih g (n+1) y (by omega) (by omega)]
def lexG (n:Nat) (l:List UInt8):Except (Int × Nat) (List Tk):=lexE l.length n l
theorem zH5 {l:List UInt8} {p n:Nat} (hp:p < l.length) (h:oneL (l.drop p)=none):lexG n (l.drop p)=.error (if n=512 then 4 else 80,l.length - p):=by
 unfold lexG;have hl:(l.drop p).length=l.length - p:=List.length_drop
 cases hd:l.drop p with
 | nil=>rw [hd] at hl;simp at hl;omega
 | cons c x =>
  rw [hd] at h hl;rw [←hl,List.length_cons];unfold lexE;rw [h]
theorem zID {l r:List UInt8} {t:Tk} {p n:Nat} (hp:p < l.length) (h:oneL (l.drop p)=some (t,r)) (hb:n=512∨16 < t.attrs.length):lexG n (l.drop p)=.error (4,l.length - p):=by
 unfold lexG;have hl:(l.drop p).length=l.length - p:=List.length_drop
 cases hd:l.drop p with
 | nil=>rw [hd] at hl;simp at hl;omega
 | cons c x =>
  rw [hd] at h hl;rw [←hl,List.length_cons];unfold lexE;rw [h];dsimp only;rw [if_pos hb]
theorem zMP {l r:List UInt8} {t:Tk} {p n:Nat} (hp:p < l.length) (h:oneL (l.drop p)=some (t,r)) (hb:¬(n=512∨16 < t.attrs.length)):lexG n (l.drop p)=(lexG (n+1) r).map (t::·):=by
 unfold lexG;have hl:(l.drop p).length=l.length - p:=List.length_drop
 cases hd:l.drop p with
 | nil=>rw [hd] at hl;simp at hl;omega
 | cons c x =>
  rw [hd] at h hl;have h2:=zDA h;rw [List.length_cons] at h2 ⊢
  conv=>lhs;unfold lexE
  rw [h];dsimp only;rw [if_neg hb,zNi x.length r.length (n+1) r (by omega) (Nat.le_refl _)]
theorem zMs {l:List UInt8} (h1:l.length≤16384) (h2:isP l=true):lexR l=(match lexG 0 l with | .ok ts=>(ts,0,0) | .error (e,k)=>([],(l.length:Int) - k,e)):=by
 unfold lexR lexG;rw [if_neg (by omega),if_pos h2]
 cases lexE l.length 0 l <;> rfl
theorem zNq {α β:Type} {ε:Type} {e:ε} {x:Except ε α} (f:α→β) (h:x=.error e):x.map f=.error e:=by rw [h];rfl
theorem zJi {l:List UInt8} {p n:Nat} {e:Int} {f:List Tk→List Tk} (h1:l.length≤16384) (h2:isP l=true) (hp:p≤l.length) (hG:lexG 0 l=(lexG n (l.drop p)).map f) (h:lexG n (l.drop p)=.error (e,l.length - p)):lexR l=([],(p:Int),e):=by
 rw [zMs h1 h2,hG,zNq f h];dsimp only;rw [show ((l.length:Nat):Int) - ((l.length - p:Nat):Int)=(p:Int) by omega]
theorem zIt {l r:List UInt8} {t:Tk} (h:oneL l=some (t,r)):∃k,k≤l.length∧r=l.drop k:=by
 rcases zCu h with ⟨h1,s,rfl,ht⟩ | ⟨h1,h2,a,x,rfl,_⟩
 · obtain ⟨_,k,hk,e⟩:=zJI ht
   exact ⟨k+1,by simp;omega,by rw [e];rfl⟩
 · exact ⟨a.length,by simp,by rw [List.drop_left]⟩
structure TB where
 x:ByteArray
 A:Option Addr
 c:Nat
 u:ByteArray
 t:Tk
def zAd (b:TB):List Value:=[.int .u8 (b.t.kind:Int),.string b.x,.slice b.A b.t.attrs.length b.c,.string b.u]
def zGY (s:ByteArray) (w:World) (e:Ending) (w':World):Prop:=Below w.heap.size w w' ∧
 ∃(ts:List Tk) (n er:Int) (A:Option Addr) (c:Nat),lexR s.data.toList=(ts,n,er)∧e=.returned (.tuple #[.slice A ts.length c,.int .i64 n,.int .i64 er])∧RdC TkC w' w'.heap.size A ts∧ts.length≤c∧c≤maxLen∧(A=none→c=0)
theorem zGY.bad {s:ByteArray} {w w':World} {n er:Int} (hb:Below w.heap.size w w') (h:lexR s.data.toList=([],n,er)):zGY s w (.returned (.tuple #[.slice none 0 0,.int .i64 n,.int .i64 er])) w' :=
 ⟨hb,[],n,er,none,0,h,rfl,RdC.nil _ _ _,Nat.le_refl _,Nat.zero_le _,fun _=>rfl⟩
theorem zJZ:(prog.info? 131).map (fun i=>(i.zero,i.size,i.bytes))=some (some (.agg #[.int .u8 0,.string ⟨#[]⟩,.slice none 0 0,.string ⟨#[]⟩]),4,64):=by kernel_rfl
theorem zHw (k:Int) (x:ByteArray) (A:Option Addr) (n c:Nat) (u:ByteArray):∀v∈[Value.int .u8 k,.string x,.slice A n c,.string u],v.oneCell'=true:=by simp [Value.oneCell']
end Hx
end Go.Proofs.YtlgppednjkbgiaaGreatDoor
