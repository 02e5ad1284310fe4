/-
  Texts of one seat, put together: TextM, Mem, NumM, EscM, LexM, LexN.
-/
import Derived.Test.YtlgppednjkbgiaaGreatDoorMbA
import GoSem.Core.Utf8
import Derived.Test.YtlgppednjkbgiaaGreatDoorRows
import Derived.WalkKit
import Derived.WalkSpells
import Derived.WalkLawsBesides
import Derived.Lib.OthersKept
import Derived.WalkSmall
import Derived.Lib.Hide
import Derived.Laws.BytesArg
import Derived.Laws.IdiomStrings
import Derived.Laws.AppendOwnNone
import Derived.ProofKit
import Derived.OpenShut
import Derived.ShutString
import Derived.ChangeOld
import Derived.Below
set_option maxRecDepth 100000
set_option maxHeartbeats 16000000
set_option linter.unusedVariables false
namespace Go.Proofs.YtlgppednjkbgiaaGreatDoor
open Go.RowKit Go.Proofs.Tryz
namespace Tx
open Go
def sv (n:Nat):Bool:=decide (n < 55296)||(decide (57344≤n)&&decide (n≤1114111))
def may (n:Int):Bool:=if n < 32 then decide (n=9)||decide (n=10)||decide (n=13) else decide (n≤1114111)&&(decide (n < 55296)||decide (57343 < n))&&decide (n≠65534)&&decide (n≠65535)
theorem zKI {n:Int} (h:may n=true):0≤n∧n≤1114111∧sv n.toNat=true:=by
 unfold may at h
 split at h
 · simp at h
   refine ⟨by omega,by omega,?_⟩
   simp [sv];omega
 · simp at h
   refine ⟨by omega,by omega,?_⟩
   simp [sv];omega
theorem zLt {n:Nat} (h:sv n=true):n≤1114111:=by simp [sv] at h;omega
def bt (n:Nat):UInt8:=UInt8.ofNat n
theorem zBH (n:Nat) (h:n < 256):(bt n).toNat=n:=by unfold bt;rw [UInt8.toNat_ofNat'];omega
def enc (n:Nat):List UInt8 :=
 if n < 128 then [bt n]
 else if n < 2048 then [bt (192+n / 64),bt (128+n % 64)]
 else if n < 65536 then [bt (224+n / 4096),bt (128+n / 64 % 64),bt (128+n % 64)]
 else [bt (240+n / 262144),bt (128+n / 4096 % 64),bt (128+n / 64 % 64),bt (128+n % 64)]
theorem zBJ (n:Nat):1≤(enc n).length∧(enc n).length≤4:=by
 unfold enc
 split
 · simp
 · split
   · simp
   · split <;> simp
def cont (b:UInt8):Bool:=decide (b.toNat / 64=2)
def decL:List UInt8→Option (Nat × Nat)
 | []=>none
 | a::r =>
  if a.toNat < 128 then some (a.toNat,1)
  else if a.toNat / 32=6 then
   match r with
   | b::_=>if cont b&&decide (128≤a.toNat % 32*64+b.toNat % 64) then some (a.toNat % 32*64+b.toNat % 64,2) else none
   | []=>none
  else if a.toNat / 16=14 then
   match r with
   | b::c::_=>if cont b&&cont c&&decide (2048≤a.toNat % 16*4096+b.toNat % 64*64+c.toNat % 64)&&sv (a.toNat % 16*4096+b.toNat % 64*64+c.toNat % 64) then some (a.toNat % 16*4096+b.toNat % 64*64+c.toNat % 64,3) else none
   | _=>none
  else if a.toNat / 8=30 then
   match r with
   | b::c::d::_=>if cont b&&cont c&&cont d&&decide (65536≤a.toNat % 8*262144+b.toNat % 64*4096+c.toNat % 64*64+d.toNat % 64)&&sv (a.toNat % 8*262144+b.toNat % 64*4096+c.toNat % 64*64+d.toNat % 64) then some (a.toNat % 8*262144+b.toNat % 64*4096+c.toNat % 64*64+d.toNat % 64,4) else none
   | _=>none
  else none
theorem zFE (n:Nat) (h:sv n=true) (r:List UInt8):decL (enc n++r)=some (n,(enc n).length):=by
 have hb:=zLt h;unfold enc
 by_cases h1:n < 128
 · rw [if_pos h1]
   simp only [List.cons_append,List.nil_append,decL,List.length_cons,List.length_nil];rw [zBH n (by omega),if_pos h1]
 · rw [if_neg h1]
   by_cases h2:n < 2048
   · rw [if_pos h2]
     have e0:=zBH (192+n / 64) (by omega);have e1:=zBH (128+n % 64) (by omega);simp only [List.cons_append,List.nil_append,decL,List.length_cons,List.length_nil,cont,e0,e1];rw [if_neg (by omega),if_pos (by omega)];have v:(192+n / 64) % 32*64+(128+n % 64) % 64=n:=by omega
     rw [v,if_pos (by simp;omega)]
   · rw [if_neg h2]
     by_cases h3:n < 65536
     · rw [if_pos h3]
       have e0:=zBH (224+n / 4096) (by omega);have e1:=zBH (128+n / 64 % 64) (by omega);have e2:=zBH (128+n % 64) (by omega);simp only [List.cons_append,List.nil_append,decL,List.length_cons,List.length_nil,cont,e0,e1,e2];rw [if_neg (by omega),if_neg (by omega),if_pos (by omega)];have v:(224+n / 4096) % 16*4096+(128+n / 64 % 64) % 64*64+(128+n % 64) % 64=n:=by omega
       rw [v,if_pos (by simp [h];omega)]
     · rw [if_neg h3]
       have e0:=zBH (240+n / 262144) (by omega);have e1:=zBH (128+n / 4096 % 64) (by omega);have e2:=zBH (128+n / 64 % 64) (by omega);have e3:=zBH (128+n % 64) (by omega);simp only [List.cons_append,List.nil_append,decL,List.length_cons,List.length_nil,cont,e0,e1,e2,e3];rw [if_neg (by omega),if_neg (by omega),if_neg (by omega),if_pos (by omega)];have v:(240+n / 262144) % 8*262144+(128+n / 4096 % 64) % 64*4096+(128+n / 64 % 64) % 64*64+(128+n % 64) % 64=n:=by omega
       rw [v,if_pos (by simp [h];omega)]
theorem zEN (a:UInt8) (n:Nat) (h:a.toNat=n):bt n=a:=by subst h;exact UInt8.ofNat_toNat
theorem zDd (l:List UInt8) (n k:Nat) (h:decL l=some (n,k)):sv n=true∧k=(enc n).length∧∃r,l=enc n++r:=by
 cases l with
 | nil=>simp [decL] at h
 | cons a r =>
  have ha:=a.toNat_lt;unfold decL at h;dsimp only at h
  by_cases h1:a.toNat < 128
  · rw [if_pos h1] at h
    obtain ⟨rfl,rfl⟩:a.toNat=n∧1=k:=by simpa using h
    have e:enc a.toNat=[a]:=by unfold enc;rw [if_pos h1,zEN a _ rfl]
    rw [e];exact ⟨by simp [sv];omega,rfl,r,rfl⟩
  · rw [if_neg h1] at h
    by_cases h2:a.toNat / 32=6
    · rw [if_pos h2] at h
      cases r with
      | nil=>simp at h
      | cons b r =>
       have hb:=b.toNat_lt;simp only at h
       split at h
       · rename_i hc
         simp only [cont,Bool.and_eq_true,decide_eq_true_eq] at hc;obtain ⟨rfl,rfl⟩:a.toNat % 32*64+b.toNat % 64=n∧2=k:=by simpa using h
         have e:enc (a.toNat % 32*64+b.toNat % 64)=[a,b]:=by
          unfold enc;rw [if_neg (by omega),if_pos (by omega),zEN a _ (by omega),zEN b _ (by omega)]
         rw [e];exact ⟨by simp [sv];omega,rfl,r,rfl⟩
       · cases h
    · rw [if_neg h2] at h
      by_cases h3:a.toNat / 16=14
      · rw [if_pos h3] at h
        match r,h with
        | [],h=>simp at h
        | [b],h=>simp at h
        | b::c::r,h =>
         have hb:=b.toNat_lt;have hc:=c.toNat_lt;simp only at h
         split at h
         · rename_i hd
           simp only [cont,Bool.and_eq_true,decide_eq_true_eq] at hd;obtain ⟨hx,rfl⟩:a.toNat % 16*4096+b.toNat % 64*64+c.toNat % 64=n∧3=k:=by simpa using h
           rw [hx] at hd
           have e:enc n=[a,b,c]:=by
            unfold enc;rw [if_neg (by omega),if_neg (by omega),if_pos (by omega),zEN a _ (by omega),zEN b _ (by omega),zEN c _ (by omega)]
           rw [e];exact ⟨hd.2,rfl,r,rfl⟩
         · cases h
      · rw [if_neg h3] at h
        by_cases h4:a.toNat / 8=30
        · rw [if_pos h4] at h
          match r,h with
          | [],h=>simp at h
          | [b],h=>simp at h
          | [b,c],h=>simp at h
          | b::c::d::r,h =>
           have hb:=b.toNat_lt;have hc:=c.toNat_lt;have hd:=d.toNat_lt;simp only at h
           split at h
           · rename_i hq
             simp only [cont,Bool.and_eq_true,decide_eq_true_eq] at hq;obtain ⟨hx,rfl⟩:a.toNat % 8*262144+b.toNat % 64*4096+c.toNat % 64*64+d.toNat % 64=n∧4=k:=by simpa using h
             rw [hx] at hq
             have e:enc n=[a,b,c,d]:=by
              unfold enc;rw [if_neg (by omega),if_neg (by omega),if_neg (by omega),zEN a _ (by omega),zEN b _ (by omega),zEN c _ (by omega),zEN d _ (by omega)]
             rw [e];exact ⟨hq.2,rfl,r,rfl⟩
           · cases h
        · rw [if_neg h4] at h
          cases h
theorem zQF {n m:Nat} (hn:sv n=true) (hm:sv m=true) {r r':List UInt8} (h:enc n++r=enc m++r'):n=m∧r=r':=by
 have h1:=zFE n hn r;rw [h,zFE m hm r'] at h1;obtain ⟨rfl,_⟩:m=n∧(enc m).length=(enc n).length:=by simpa using h1
 exact ⟨rfl,List.append_cancel_left h⟩
def one (l:List UInt8):Option (Nat × Nat):=(decL l).filter fun p=>may p.1
theorem zMk (n:Nat) (h:may n=true) (r:List UInt8):one (enc n++r)=some (n,(enc n).length):=by
 have hs:=(zKI h).2.2;rw [Int.toNat_natCast] at hs;rw [one,zFE n hs r]
 simp [h]
theorem zEt {l:List UInt8} {n k:Nat} (h:one l=some (n,k)):may n=true∧sv n=true∧k=(enc n).length∧∃r,l=enc n++r:=by
 unfold one at h;rw [Option.filter_eq_some_iff] at h;obtain ⟨h1,h2⟩:=h;obtain ⟨a,b,c⟩:=zDd l n k h1;exact ⟨h2,a,b,c⟩
def encs (l:List Nat):List UInt8:=l.flatMap enc
theorem zCg:encs []=[]:=rfl
theorem zAl (n:Nat) (l:List Nat):encs (n::l)=enc n++encs l:=by simp [encs]
theorem zCm (a b:List Nat):encs (a++b)=encs a++encs b:=by simp [encs]
def mays (l:List Nat):Prop:=∀n∈l,may (n:Int)=true
theorem zCk:mays []:=fun _ h=>by cases h
theorem zAw {n:Nat} {l:List Nat}:mays (n::l)↔may (n:Int)=true∧mays l:=by simp [mays]
theorem zDP {a b:List Nat}:mays (a++b)↔mays a∧mays b:=by
 unfold mays
 constructor
 · intro h
   exact ⟨fun n hn=>h n (by simp [hn]),fun n hn=>h n (by simp [hn])⟩
 · rintro ⟨h1,h2⟩ n hn
   rcases List.mem_append.1 hn with h | h
   · exact h1 n h
   · exact h2 n h
theorem zEr {n:Nat} (h:may (n:Int)=true):sv n=true:=by
 have:=(zKI h).2.2
 rwa [Int.toNat_natCast] at this
theorem zFU:∀(ms ns:List Nat) (y:List UInt8),mays ms→mays ns→encs ns=encs ms++y→∃rest,ns=ms++rest∧y=encs rest
 | [],ns,y,_,_,h=>⟨ns,rfl,by simpa [encs] using h.symm⟩
 | m::ms,ns,y,h1,h2,h=>by
  rw [zAw] at h1;rw [zAl,List.append_assoc] at h
  cases ns with
  | nil =>
   have:=congrArg List.length h;have:=(zBJ m).1
   simp [encs] at *
   omega
  | cons n ns =>
   rw [zAw] at h2;rw [zAl] at h;obtain ⟨rfl,h3⟩:=zQF (zEr h2.1) (zEr h1.1) h;obtain ⟨rest,rfl,e⟩:=zFU ms ns y h1.2 h2.2 h3;exact ⟨rest,rfl,e⟩
def ptsF:Nat→List UInt8→Option (List Nat)
 | _,[]=>some []
 | 0,_::_=>none
 | f+1,a::l=>match one (a::l) with
  | none=>none
  | some (n,k)=>(ptsF f ((a::l).drop k)).map (n::·)
def pts (l:List UInt8):Option (List Nat):=ptsF l.length l
theorem zG9:∀(f:Nat) (ns:List Nat),mays ns→(encs ns).length≤f→ptsF f (encs ns)=some ns
 | f,[],_,_=>by cases f <;> rfl
 | f,n::ns,h,hl=>by
  rw [zAw] at h;have h1:=(zBJ n).1;have h4:=zMk n h.1 (encs ns);rw [zAl] at *;rw [List.length_append] at hl
  cases f with
  | zero=>omega
  | succ f =>
   have e:∃a r,enc n++encs ns=a::r:=by
    cases hq:enc n with
    | nil=>rw [hq] at h1;simp at h1
    | cons a r=>exact ⟨a,r++encs ns,rfl⟩
   obtain ⟨a,r,e⟩:=e;rw [e] at h4 ⊢;rw [ptsF,h4];have ed:(a::r).drop (enc n).length=encs ns:=by rw [←e,List.drop_left]
   simp only [ed];rw [zG9 f ns h.2 (by omega)]
   rfl
theorem zFs:∀(f:Nat) (l:List UInt8) (ns:List Nat),ptsF f l=some ns→l=encs ns∧mays ns
 | f,[],ns,h=>by
  have:ns=[]:=by cases f <;> simpa [ptsF] using h.symm
  subst this;exact ⟨rfl,zCk⟩
 | 0,a::l,ns,h=>by simp [ptsF] at h
 | f+1,a::l,ns,h=>by
  rw [ptsF] at h
  cases ho:one (a::l) with
  | none=>rw [ho] at h;cases h
  | some p =>
   obtain ⟨n,k⟩:=p;rw [ho] at h;obtain ⟨h1,_,rfl,r,hr⟩:=zEt ho;simp only [Option.map_eq_some_iff] at h;obtain ⟨ms,h2,rfl⟩:=h;rw [hr,List.drop_left] at h2;obtain ⟨e,hm⟩:=zFs f r ms h2;exact ⟨by rw [hr,zAl,e],zAw.2 ⟨h1,hm⟩⟩
theorem zCz (l:List UInt8) (ns:List Nat):pts l=some ns↔l=encs ns∧mays ns:=by
 constructor
 · exact zFs _ _ _
 · rintro ⟨rfl,h⟩
   exact zG9 _ _ h (Nat.le_refl _)
theorem zDm {ns:List Nat} (h:mays ns):pts (encs ns)=some ns:=(zCz _ _).2 ⟨rfl,h⟩
theorem zJ0 (l:List UInt8) (h:l≠[]):pts l=match one l with | none=>none | some (n,k)=>(pts (l.drop k)).map (n::·):=by
 cases ho:one l with
 | none =>
  cases hp:pts l with
  | none=>rfl
  | some ns =>
   obtain ⟨e,hm⟩:=(zCz _ _).1 hp
   cases ns with
   | nil=>exact absurd e h
   | cons n ns =>
    rw [zAw] at hm;rw [e,zAl,zMk n hm.1] at ho
    cases ho
 | some p =>
  obtain ⟨n,k⟩:=p;obtain ⟨h1,_,rfl,r,rfl⟩:=zEt ho;simp only [List.drop_left]
  cases hp:pts r with
  | none =>
   cases hq:pts (enc n++r) with
   | none=>rfl
   | some ns =>
    obtain ⟨e,hm⟩:=(zCz _ _).1 hq;obtain ⟨rest,_,e2⟩:=zFU [n] ns r (zAw.2 ⟨h1,zCk⟩) hm (by rw [←e,zAl,zCg,List.append_nil])
    have hm2:mays rest:=by
     rename_i e1
     rw [e1] at hm;exact (zDP.1 hm).2
    rw [e2,zDm hm2] at hp
    cases hp
  | some ms =>
   obtain ⟨e,hm⟩:=(zCz _ _).1 hp;rw [e,←zAl];exact zDm (zAw.2 ⟨h1,hm⟩)
theorem zPG (n:Nat) (h:sv n=true) (j:Nat) (h0:0 < j) (hj:j < (enc n).length):∃b r,(enc n).drop j=b::r∧cont b=true:=by
 have hb:=zLt h;have c:∀m,m < 64→cont (bt (128+m))=true:=fun m hm=>by unfold cont;rw [zBH _ (by omega)];simp;omega
 revert hj
 unfold enc
 split
 · intro hj;simp at hj;omega
 · split
   · intro hj
     obtain rfl:j=1:=by simp at hj;omega
     exact ⟨_,_,rfl,c _ (by omega)⟩
   · split
     · intro hj
       have:j=1∨j=2:=by simp at hj;omega
       rcases this with rfl | rfl
       · exact ⟨_,_,rfl,c _ (by omega)⟩
       · exact ⟨_,_,rfl,c _ (by omega)⟩
     · intro hj
       have:j=1∨j=2∨j=3:=by simp at hj;omega
       rcases this with rfl | rfl | rfl
       · exact ⟨_,_,rfl,c _ (by omega)⟩
       · exact ⟨_,_,rfl,c _ (by omega)⟩
       · exact ⟨_,_,rfl,c _ (by omega)⟩
end Tx
namespace Hx
def RdA (w:World) (B:Nat) (A:Option Addr) (l:List UInt8):Prop :=
 0 < l.length→∃b off,A=some ⟨b,off,none⟩∧b < B∧∀j (h:j < l.length),w.cell? ⟨b,off+j,none⟩=some (.int .u8 (l[j]'h).toNat)
theorem RdA.keep {w w':World} {B B':Nat} {A:Option Addr} {l:List UInt8} (h:RdA w B A l) (hB:B≤B') (hk:∀b o,b < B→w'.cell? ⟨b,o,none⟩=w.cell? ⟨b,o,none⟩):RdA w' B' A l:=by
 intro hp;obtain ⟨b,off,e,hb,hc⟩:=h hp;exact ⟨b,off,e,by omega,fun j hj=>(hk _ _ hb).trans (hc j hj)⟩
theorem RdA.mono {w:World} {B B':Nat} {A:Option Addr} {l:List UInt8} (h:RdA w B A l) (hB:B≤B'):RdA w B' A l:=h.keep hB fun _ _ _=>rfl
theorem zBB (b o i:Nat):(⟨b,o,none⟩:Addr).add i=⟨b,o+i,none⟩:=by
 unfold Addr.add
 split <;> simp_all
theorem RdA.of_own {w:World} {base:Nat} {e:TypeId} {A:Option Addr} {n c:Nat} {l:List UInt8} (h:w.ownsRow base e 1 (.slice A n c) n (Lib.byteCells l)):RdA w w.heap.size A l∧l.length=n:=by
 have hl:l.length=n:=by have:=h.1;rw [Lib.byteCells_length] at this;omega
 refine ⟨fun hp=>?_,hl⟩;rcases h.2 with ⟨_,h0⟩ | ⟨g,cap,cur,hv,_,hg,_⟩
 · omega
 injection hv with hA _ _;subst hA;have hlt:g < w.heap.size:=(Array.getElem?_eq_some_iff.1 hg).1;refine ⟨g,0,rfl,hlt,fun j hj=>?_⟩;have:=h.cells (g:=g) rfl j (.int .u8 (l[j]'hj).toNat) (by simp [Lib.byteCells,hj]);rw [zBB] at this;exact this
theorem zBo {w:World} {base:Nat} {e:TypeId} {v:Value} {n:Nat} {xs:List Value} (h:w.ownsRow base e 1 v n xs):∃A c,v=.slice A n c:=by
 rcases h.2 with ⟨rfl,rfl⟩ | ⟨g,cap,cur,rfl,_⟩
 · exact ⟨none,0,rfl⟩
 · exact ⟨_,cap,rfl⟩
theorem RdA.new (w:World) (t:TypeId) (l:List UInt8):RdA (w.alloc (.cells (Lib.byteCells l).toArray t)) (w.heap.size+1) (some ⟨w.heap.size,0,none⟩) l:=by
 intro _;refine ⟨_,_,rfl,Nat.lt_succ_self _,fun j hj=>?_⟩;rw [World.cell?_alloc_new]
 simp [Lib.byteCells,hj]
theorem RdA.newS (w:World) (t:TypeId) (l:List UInt8):RdA (w.alloc (.cells (Lib.byteCells l).toArray t)) (w.alloc (.cells (Lib.byteCells l).toArray t)).heap.size (some ⟨w.heap.size,0,none⟩) l :=
 (RdA.new w t l).mono (by simp)
theorem zNB (l:List UInt8):∀v∈Lib.byteCells l,v.oneCell'=true:=by
 intro v hv;obtain ⟨b,_,rfl⟩:=List.mem_map.1 hv
 rfl
theorem zQU {x y:Bool} (h:x=y):Ending.returned (.bool x)=.returned (.bool y):=by rw [h]
theorem zN2 {P:Program} {w:World} {B src dst e:Nat} {A:Option Addr} {n c:Nat} {l:List UInt8} (h:RdA w B A l) (hn:l.length=n)
 (hs:P.underlying src=some (.slice e)) (he:P.underlying e=some (.int .u8)) (hd:P.underlying dst=some .string) :
 (convert src dst (.slice A n c)).run P w=.ok (.string ⟨l.toArray⟩) w:=by
 subst hn;rcases Nat.eq_zero_or_pos l.length with h0 | h0
 · have hl:l=[]:=List.eq_nil_of_length_eq_zero h0
   subst hl;rcases A with _ | a
   · exact run_convert_bytes_nil w src e hs he _ _ dst hd
   · exact run_convert_bytes_back w src dst e a c [] hs he hd (fun j hj=>absurd hj (by simp))
 · obtain ⟨b,off,rfl,_,hc⟩:=h h0
   exact run_convert_bytes_back w src dst e _ c l hs he hd (fun j hj=>by rw [zBB];exact hc j hj)
theorem zEM {P:Program} {w:World} {ops:Array Oper} {rest:List Oper} {o:Oper} {a:Act} {Q:Exit→Act→World→Prop} (hgd:o.guard=none) (s x:Operand) (t:TypeId)
 (ho:o.op=.call { callee:=.builtin .append,args:=#[s,x],argTypes:=#[t,t] })
 (base:Nat) (e:TypeId) (i:TypeInfo) (z:Value) (ht:P.underlying t=some (.slice e)) (hi:P.info? e=some i) (hz:i.zero=some z) (hsize:i.size=1) (hby:i.bytes=1) (hzs:z.cells.size=1)
 (v:Value) (n:Nat) (xs:List Value) (hs:a.eval s=v) (hown:w.ownsRow base e 1 v n xs)
 (B:Nat) (A:Option Addr) (m c:Nat) (l:List UInt8) (hx:a.eval x=.slice A m c) (hr:RdA w B A l) (hl:l.length=m) (hc0:A=none→c=0) (hb:n+m≤100000000000) (hbase:base≤w.heap.size)
 (h:∀v' w',w'.ownsRow base e 1 v' (n+m) (xs++Lib.byteCells l)→w.grownBy w' v.ownBlock→wpList P ops Q rest (a.put o.dst v') w'):wpList P ops Q (o::rest) a w:=by
 rcases A with _ | ad
 · have h0:l=[]:=by
    rcases Nat.eq_zero_or_pos l.length with h0 | h0
    · exact List.eq_nil_of_length_eq_zero h0
    · obtain ⟨_,_,he,_⟩:=hr h0
      cases he
   subst h0;obtain rfl:0=m:=hl;rw [hc0 rfl] at hx;exact wpList_append_own_none hgd s x t ho base e i 1 ht hi v n xs hs hown hx (h v w (by simpa [Lib.byteCells] using hown) (World.grownBy.refl _ _))
 · refine wpList_append_own w hgd s x t ho base e i z 1 1 ht hi hz hsize hby hzs (by decide) v n xs hs hown ad m c (Lib.byteCells l) hx (by rw [Lib.byteCells_length];omega) ?_ (zNB l) (by unfold maxLen;omega) (by omega) hbase (fun v' w' h1 h2 _=>h v' w' h1 h2)
   intro j u hu
   have hj:j < l.length:=by
    have:=(List.getElem?_eq_some_iff.1 hu).1
    simpa [Lib.byteCells] using this
   obtain ⟨b,off,he,_,hc⟩:=hr (by omega)
   cases he
   rw [zBB,hc j hj]
   simpa [Lib.byteCells,hj] using hu
theorem stp {a b c:World} (h:Below a.heap.size a b) (k:Below b.heap.size b c):Below a.heap.size a c:=h.trans (k.mono h.size)
theorem stpA {a b:World} (h:Below a.heap.size a b) (o:Obj):Below a.heap.size a (b.alloc o):=h.alloc h.size o
end Hx
namespace Nmb
def dgt (n:Nat):UInt8:=UInt8.ofNat (48+n)
theorem zGX {n:Nat} (h:n < 10):(dgt n).toNat=48+n:=by unfold dgt;rw [UInt8.toNat_ofNat'];omega
def dg (n:Nat):List UInt8:=if h:n < 10 then [dgt n] else dg (n / 10)++[dgt (n % 10)]
termination_by n
decreasing_by omega
theorem zB8 {n:Nat} (h:n < 10):dg n=[dgt n]:=by rw [dg,dif_pos h]
theorem zDS {n:Nat} (h:10≤n):dg n=dg (n / 10)++[dgt (n % 10)]:=by rw [dg,dif_neg (by omega)]
def isDg (b:UInt8):Bool:=decide (48≤b.toNat)&&decide (b.toNat≤57)
theorem zJt {n:Nat} (h:n < 10):isDg (dgt n)=true:=by unfold isDg;rw [zGX h];simp;omega
theorem zPd {b:UInt8} (h:isDg b=true):dgt (b.toNat - 48)=b:=by
 simp only [isDg,Bool.and_eq_true,decide_eq_true_eq] at h;unfold dgt;rw [show 48+(b.toNat - 48)=b.toNat by omega];exact UInt8.ofNat_toNat
def val (l:List UInt8):Nat:=l.foldl (fun n b=>10*n+(b.toNat - 48)) 0
theorem zMV:val []=0:=rfl
theorem zDf (l:List UInt8) (b:UInt8):val (l++[b])=10*val l+(b.toNat - 48):=by unfold val;rw [List.foldl_append];rfl
theorem zM8 (n:Nat):val (dg n)=n:=by
 induction n using Nat.strongRecOn with
 | ind n ih =>
  by_cases h:n < 10
  · rw [zB8 h,←List.nil_append [dgt n],zDf,zMV,zGX h]
    omega
  · rw [zDS (by omega),zDf,ih (n / 10) (by omega),zGX (by omega)]
    omega
theorem zR1 {n m:Nat} (h:dg n=dg m):n=m:=by rw [←zM8 n,h,zM8]
theorem zNO (n:Nat):(dg n).all isDg=true:=by
 induction n using Nat.strongRecOn with
 | ind n ih =>
  by_cases h:n < 10
  · rw [zB8 h];simp [zJt h]
  · rw [zDS (by omega),List.all_append,ih (n / 10) (by omega)]
    simp [zJt (show n % 10 < 10 by omega)]
theorem zNb (n:Nat):1≤(dg n).length:=by
 by_cases h:n < 10
 · rw [zB8 h];simp
 · rw [zDS (by omega)];simp
theorem zRd (n:Nat):dg n≠[]:=fun h=>by have:=zNb n;rw [h] at this;simp at this
theorem zEV {l r:List UInt8} (h:l≠[]):(l++r).head?=l.head?:=by
 cases l with
 | nil=>exact absurd rfl h
 | cons a l=>rfl
theorem zOQ (n:Nat) (h0:0 < n):(dg n).head?≠some 48:=by
 induction n using Nat.strongRecOn with
 | ind n ih =>
  by_cases h:n < 10
  · rw [zB8 h]
    simp only [List.head?_cons,ne_eq,Option.some.injEq];intro q;have:=congrArg UInt8.toNat q;rw [zGX h] at this
    simp at this
    omega
  · rw [zDS (by omega),zEV (zRd _)]
    exact ih (n / 10) (by omega) (by omega)
def okN (l:List UInt8):Bool:= !l.isEmpty&&l.all isDg&&(l.length==1||l.head? != some 48)
theorem zRq (n:Nat):okN (dg n)=true:=by
 unfold okN;rw [zNO]
 by_cases h:n=0
 · subst h
   rw [zB8 (by omega)]
   rfl
 · have h1:=zOQ n (by omega)
   have h2:=zRd n
   simp [h1,h2]
theorem zNc (l:List UInt8) (h:l.all isDg=true) (hn:l≠[]) (hf:l.head?≠some 48):0 < val l:=by
 cases l with
 | nil=>exact absurd rfl hn
 | cons b r =>
  simp only [List.head?_cons,ne_eq,Option.some.injEq] at hf;rw [List.all_cons,Bool.and_eq_true] at h
  have hb:0 < b.toNat - 48:=by
   have h1:=h.1;simp only [isDg,Bool.and_eq_true,decide_eq_true_eq] at h1;have:b.toNat≠48:=fun q=>hf (UInt8.toNat_inj.1 (by rw [q];rfl))
   omega
  have gen:∀(r:List UInt8) (x:Nat),0 < x→0 < r.foldl (fun n b=>10*n+(b.toNat - 48)) x:=by
   intro r
   induction r with
   | nil=>exact fun x hx=>hx
   | cons c r ih=>exact fun x hx=>ih (10*x+(c.toNat - 48)) (by omega)
  exact gen r (10*0+(b.toNat - 48)) (by omega)
theorem zRf (l:List UInt8) (h:okN l=true):dg (val l)=l:=by
 simp only [okN,Bool.and_eq_true,Bool.or_eq_true,bne_iff_ne,beq_iff_eq,Bool.not_eq_true',List.isEmpty_eq_false_iff] at h;obtain ⟨⟨hn,ha⟩,hf⟩:=h;obtain ⟨k,hk⟩:∃k,l.length=k:=⟨_,rfl⟩
 induction k generalizing l with
 | zero=>exact absurd (List.eq_nil_of_length_eq_zero hk) hn
 | succ k ih =>
  obtain ⟨r,b,rfl⟩:∃r b,l=r++[b]:=⟨l.dropLast,l.getLast hn,(List.dropLast_concat_getLast hn).symm⟩;rw [List.all_append,Bool.and_eq_true] at ha;have hb:isDg b=true:=by simpa using ha.2
  have hb2:=hb;simp only [isDg,Bool.and_eq_true,decide_eq_true_eq] at hb2;rw [zDf]
  by_cases hr:r=[]
  · subst hr
    rw [zMV,zB8 (by omega),show 10*0+(b.toNat - 48)=b.toNat - 48 by omega,zPd hb]
    rfl
  · have hrl:0 < r.length:=List.length_pos_iff.2 hr
    have hf':r.head?≠some 48:=by
     rcases hf with hf | hf
     · rw [List.length_append] at hf;simp only [List.length_cons,List.length_nil] at hf;omega
     · rw [zEV hr] at hf;exact hf
    have hp:=zNc r ha.1 hr hf';have hrk:r.length=k:=by rw [List.length_append] at hk;simpa using hk
    have hi:dg (val r)=r:=by apply ih <;> first | exact ha.1 | assumption | exact Or.inr hf'
    rw [zDS (by omega),show (10*val r+(b.toNat - 48)) / 10=val r by omega,show (10*val r+(b.toNat - 48)) % 10=b.toNat - 48 by omega,hi,zPd hb]
def most:Nat:=9007199254740991
def zDZ (l:List UInt8):Option Nat:=if okN l&&decide (val l≤most) then some (val l) else none
theorem zLT (l:List UInt8) (n:Nat):zDZ l=some n↔l=dg n∧n≤most:=by
 unfold zDZ
 constructor
 · intro h
   split at h
   · rename_i hc
     rw [Bool.and_eq_true,decide_eq_true_eq] at hc;injection h with h;subst h;exact ⟨(zRf l hc.1).symm,hc.2⟩
   · cases h
 · rintro ⟨rfl,h⟩
   rw [zRq,zM8,if_pos (by simpa using h)]
theorem zRj (n:Nat) (b:UInt8) (hb:isDg b=false):b∉dg n:=fun h=>by
 have:=List.all_eq_true.1 (zNO n) b h;rw [hb] at this
 cases this
end Nmb
namespace Es
open Go Tx Nmb
theorem zA4 (p:UInt8→Prop) [DecidablePred p] (h:∀n:Fin 256,p (UInt8.ofNat n.val)) (c:UInt8):p c:=by
 have:=h ⟨c.toNat,c.toNat_lt⟩
 simpa using this
def escb (q:Bool) (c:UInt8):List UInt8 :=
 if c=38 then [38,97,109,112,59] else if c=60 then [38,108,116,59] else if c=62 then [38,103,116,59] else if c=13 then [38,35,49,51,59]
 else if q=true∧c=34 then [38,113,117,111,116,59] else if q=true∧c=9 then [38,35,57,59] else if q=true∧c=10 then [38,35,49,48,59] else [c]
def escL (q:Bool) (l:List UInt8):List UInt8:=l.flatMap (escb q)
theorem zNy (q:Bool):escL q []=[]:=rfl
theorem zDc (q:Bool) (c:UInt8) (l:List UInt8):escL q (c::l)=escb q c++escL q l:=by simp [escL]
theorem zOn (q:Bool) (a b:List UInt8):escL q (a++b)=escL q a++escL q b:=by simp [escL]
theorem zMx (q:Bool) (l:List UInt8) (c:UInt8):escL q (l++[c])=escL q l++escb q c:=by simp [escL]
def hxv (c:UInt8):Option Nat:=if 48≤c.toNat∧c.toNat≤57 then some (c.toNat - 48) else if 97≤c.toNat∧c.toNat≤102 then some (c.toNat - 87) else if 65≤c.toNat∧c.toNat≤70 then some (c.toNat - 55) else none
def hexF (l:List UInt8):Option Nat:=l.foldl (fun a c=>a.bind fun n=>(hxv c).map fun d=>16*n+d) (some 0)
theorem zFF (l:List UInt8) (c:UInt8):hexF (l++[c])=(hexF l).bind fun n=>(hxv c).map fun d=>16*n+d:=by simp [hexF]
def hexV (l:List UInt8):Option Nat:=if l=[]∨6 < l.length∨l.head?=some 48 then none else hexF l
def numL (l:List UInt8):Option Nat:=((match l with | 120::r=>hexV r | _=>zDZ l)).filter fun n=>may n
def zBc (l:List UInt8):Option (List UInt8) :=
 if l=[97,109,112] then some [38] else if l=[108,116] then some [60] else if l=[103,116] then some [62] else if l=[113,117,111,116] then some [34] else if l=[97,112,111,115] then some [39]
 else match l with | 35::r=>(numL r).map enc | _=>none
def semi:List UInt8→Option (List UInt8 × List UInt8)
 | []=>none
 | c::r=>if c=59 then some ([],r) else (semi r).map fun p=>(c::p.1,p.2)
theorem zCJ:∀(l x r:List UInt8),semi l=some (x,r)→l=x++59::r∧(59:UInt8)∉x
 | [],x,r,h=>by cases h
 | c::l,x,r,h=>by
  rw [semi] at h
  split at h
  · rename_i hc
    cases h
    exact ⟨by rw [hc];rfl,by simp⟩
  · rename_i hc
    rw [Option.map_eq_some_iff] at h;obtain ⟨⟨y,t⟩,h1,h2⟩:=h
    cases h2
    obtain ⟨e,hn⟩:=zCJ l y _ h1;refine ⟨by rw [e];rfl,?_⟩;intro hm;rcases List.mem_cons.1 hm with h | h
    · exact hc h.symm
    · exact hn h
theorem zMj (x r:List UInt8) (h:(59:UInt8)∉x):semi (x++59::r)=some (x,r):=by
 induction x with
 | nil=>simp [semi]
 | cons c x ih =>
  rw [List.cons_append,semi,if_neg (fun e=>h (by simp [e])),ih (fun hm=>h (by simp [hm]))]
  rfl
theorem zM3 (l:List UInt8) (h:(59:UInt8)∉l):semi l=none:=by
 induction l with
 | nil=>rfl
 | cons c l ih =>
  rw [semi,if_neg (fun e=>h (by simp [e])),ih (fun hm=>h (by simp [hm]))]
  rfl
def rdF:Nat→List UInt8→Option (List UInt8)
 | _,[]=>some []
 | 0,_::_=>none
 | f+1,c::r=>if c=60 then none else if c=38 then (match semi r with
  | none=>none
  | some (x,t)=>match zBc x with
   | none=>none
   | some y=>(rdF f t).map (y++·)) else (rdF f r).map (c::·)
def rd (l:List UInt8):Option (List UInt8):=rdF l.length l
theorem zGO:∀(f g:Nat) (l:List UInt8),l.length≤f→l.length≤g→rdF f l=rdF g l
 | f,g,[],_,_=>by cases f <;> cases g <;> rfl
 | 0,g,c::r,h,_=>by simp at h
 | f+1,0,c::r,_,h=>by simp at h
 | f+1,g+1,c::r,h1,h2=>by
  simp only [List.length_cons] at h1 h2;rw [rdF,rdF]
  by_cases h60:c=60
  · rw [if_pos h60,if_pos h60]
  · rw [if_neg h60,if_neg h60]
    by_cases h38:c=38
    · rw [if_pos h38,if_pos h38]
      cases hs:semi r with
      | none=>rfl
      | some p =>
       obtain ⟨x,t⟩:=p;have hl:=congrArg List.length (zCJ r x t hs).1;simp only [List.length_append,List.length_cons] at hl;simp only;rw [zGO f g t (by omega) (by omega)]
    · rw [if_neg h38,if_neg h38,zGO f g r (by omega) (by omega)]
theorem zJ4 (r:List UInt8):rd (60::r)=none:=by unfold rd;rw [List.length_cons,rdF,if_pos rfl]
theorem zDO (c:UInt8) (r:List UInt8) (h1:c≠60) (h2:c≠38):rd (c::r)=(rd r).map (c::·):=by
 unfold rd;rw [List.length_cons,rdF,if_neg h1,if_neg h2]
theorem zFK (r:List UInt8):rd (38::r)=match semi r with
 | none=>none
 | some (x,t)=>match zBc x with
  | none=>none
  | some y=>(rd t).map (y++·):=by
 unfold rd;rw [List.length_cons,rdF,if_neg (by decide),if_pos rfl]
 cases hs:semi r with
 | none=>rfl
 | some p =>
  obtain ⟨x,t⟩:=p;have hl:=congrArg List.length (zCJ r x t hs).1;simp only [List.length_append,List.length_cons] at hl;simp only;rw [zGO r.length t.length t (by omega) (Nat.le_refl _)]
theorem zLz:∀(n:Nat) (a b z:List UInt8),a.length≤n→rd a=some z→rd (a++b)=(rd b).map (z++·)
 | n,[],b,z,_,h=>by
  cases h
  simp
 | 0,c::a,b,z,h,_=>by simp at h
 | n+1,c::a,b,z,hn,h=>by
  simp only [List.length_cons] at hn;rw [List.cons_append]
  by_cases h60:c=60
  · subst h60;rw [zJ4] at h;cases h
  · by_cases h38:c=38
    · subst h38
      rw [zFK] at h ⊢
      cases hs:semi a with
      | none=>rw [hs] at h;cases h
      | some p =>
       obtain ⟨x,t⟩:=p;obtain ⟨e,hx⟩:=zCJ a x t hs;rw [hs] at h;have e2:semi (a++b)=some (x,t++b):=by rw [e,List.append_assoc];exact zMj x (t++b) hx
       rw [e2];simp only at h ⊢
       cases hm:zBc x with
       | none=>rw [hm] at h;cases h
       | some y =>
        rw [hm] at h;simp only at h ⊢;rw [Option.map_eq_some_iff] at h;obtain ⟨u,hu,rfl⟩:=h;have hl:=congrArg List.length e;simp only [List.length_append,List.length_cons] at hl;rw [zLz n t b u (by omega) hu]
        cases rd b <;> simp
    · rw [zDO c a h60 h38] at h
      rw [zDO c (a++b) h60 h38];rw [Option.map_eq_some_iff] at h;obtain ⟨u,hu,rfl⟩:=h;rw [zLz n a b u (by omega) hu]
      cases rd b <;> simp
theorem zHF (a b z:List UInt8) (h:rd a=some z):rd (a++b)=(rd b).map (z++·):=zLz a.length a b z (Nat.le_refl _) h
theorem zQD (q:Bool) (c:UInt8):rd (escb q c)=some [c]:=by
 cases q
 · exact zA4 (fun c=>rd (escb false c)=some [c]) (by decide +kernel) c
 · exact zA4 (fun c=>rd (escb true c)=some [c]) (by decide +kernel) c
theorem zPN (q:Bool) (l:List UInt8):rd (escL q l)=some l:=by
 induction l with
 | nil=>rfl
 | cons c l ih =>
  rw [zDc,zHF _ _ _ (zQD q c),ih]
  rfl
theorem zQG (q:Bool) (c:UInt8):∀x∈escb q c,x≠60∧x≠62∧x≠13∧(q=true→x≠34∧x≠9∧x≠10):=by
 cases q
 · exact zA4 (fun c=>∀x∈escb false c,x≠60∧x≠62∧x≠13∧(false=true→x≠34∧x≠9∧x≠10)) (by decide +kernel) c
 · exact zA4 (fun c=>∀x∈escb true c,x≠60∧x≠62∧x≠13∧(true=true→x≠34∧x≠9∧x≠10)) (by decide +kernel) c
theorem zJL (q:Bool) (l:List UInt8):∀x∈escL q l,x≠60∧x≠62∧x≠13∧(q=true→x≠34∧x≠9∧x≠10):=by
 intro x hx;unfold escL at hx;rw [List.mem_flatMap] at hx;obtain ⟨c,_,hc⟩:=hx;exact zQG q c x hc
theorem zPF (q:Bool) (c:UInt8):1≤(escb q c).length∧(escb q c).length≤6:=by
 cases q
 · exact zA4 (fun c=>1≤(escb false c).length∧(escb false c).length≤6) (by decide +kernel) c
 · exact zA4 (fun c=>1≤(escb true c).length∧(escb true c).length≤6) (by decide +kernel) c
theorem zCn (q:Bool) (l:List UInt8):l.length≤(escL q l).length∧(escL q l).length≤6*l.length:=by
 induction l with
 | nil=>simp [escL]
 | cons c l ih =>
  have:=zPF q c;rw [zDc,List.length_append,List.length_cons]
  omega
def escn (q:Bool) (n:Nat):List Nat:=if n < 128 then (escb q (bt n)).map UInt8.toNat else [n]
theorem zOj (q:Bool) (c:UInt8) (h:128≤c.toNat):escb q c=[c]:=by
 cases q
 · exact zA4 (fun c=>128≤c.toNat→escb false c=[c]) (by decide +kernel) c h
 · exact zA4 (fun c=>128≤c.toNat→escb true c=[c]) (by decide +kernel) c h
theorem zHV (q:Bool) (c:UInt8) (h:c.toNat < 128):∀x∈escb q c,x.toNat < 128∧(may (c.toNat:Int)=true→may (x.toNat:Int)=true):=by
 cases q
 · exact zA4 (fun c=>c.toNat < 128→∀x∈escb false c,x.toNat < 128∧(may (c.toNat:Int)=true→may (x.toNat:Int)=true)) (by decide +kernel) c h
 · exact zA4 (fun c=>c.toNat < 128→∀x∈escb true c,x.toNat < 128∧(may (c.toNat:Int)=true→may (x.toNat:Int)=true)) (by decide +kernel) c h
theorem zLy (l:List UInt8) (h:∀x∈l,x.toNat < 128):encs (l.map UInt8.toNat)=l:=by
 induction l with
 | nil=>rfl
 | cons c l ih =>
  rw [List.map_cons,zAl,ih (fun x hx=>h x (by simp [hx]))];have:enc c.toNat=[c]:=by unfold enc;rw [if_pos (h c (by simp)),zEN c _ rfl]
  rw [this]
  rfl
theorem zDz (n:Nat) (h:128≤n) (hs:sv n=true):∀x∈enc n,128≤x.toNat:=by
 have hb:=zLt hs;unfold enc;rw [if_neg (by omega)];intro x hx
 split at hx
 · simp only [List.mem_cons,List.not_mem_nil,or_false] at hx
   rcases hx with rfl | rfl <;> rw [zBH _ (by omega)] <;> omega
 · split at hx
   · simp only [List.mem_cons,List.not_mem_nil,or_false] at hx
     rcases hx with rfl | rfl | rfl <;> rw [zBH _ (by omega)] <;> omega
   · simp only [List.mem_cons,List.not_mem_nil,or_false] at hx
     rcases hx with rfl | rfl | rfl | rfl <;> rw [zBH _ (by omega)] <;> omega
theorem zOB (q:Bool) (l:List UInt8) (h:∀x∈l,128≤x.toNat):escL q l=l:=by
 induction l with
 | nil=>rfl
 | cons c l ih=>rw [zDc,zOj q c (h c (by simp)),ih (fun x hx=>h x (by simp [hx]))];rfl
theorem zQr (q:Bool) (n:Nat) (hs:sv n=true):escL q (enc n)=encs (escn q n):=by
 unfold escn
 by_cases h:n < 128
 · rw [if_pos h]
   have hb:(bt n).toNat=n:=zBH n (by omega);have e:enc n=[bt n]:=by unfold enc;rw [if_pos h]
   rw [e,zDc,zNy,List.append_nil,zLy _ (fun x hx=>(zHV q (bt n) (by omega) x hx).1)]
 · rw [if_neg h,zOB q _ (zDz n (by omega) hs),zAl,zCg,List.append_nil]
theorem zOt (q:Bool) (n:Nat) (h:may (n:Int)=true):mays (escn q n):=by
 unfold escn
 by_cases h1:n < 128
 · rw [if_pos h1]
   have hb:(bt n).toNat=n:=zBH n (by omega);intro x hx;obtain ⟨y,hy,rfl⟩:=List.mem_map.1 hx;exact (zHV q (bt n) (by omega) y hy).2 (by rw [hb];exact h)
 · rw [if_neg h1]
   intro x hx;rw [List.mem_singleton] at hx;subst hx;exact h
theorem zOF (q:Bool) (ns:List Nat) (h:mays ns):escL q (encs ns)=encs (ns.flatMap (escn q))∧mays (ns.flatMap (escn q)):=by
 induction ns with
 | nil=>exact ⟨rfl,zCk⟩
 | cons n ns ih =>
  rw [zAw] at h;obtain ⟨i1,i2⟩:=ih h.2;refine ⟨?_,?_⟩
  · rw [zAl,zOn,zQr q n (zEr h.1),i1,List.flatMap_cons,zCm]
  · rw [List.flatMap_cons,zDP]
    exact ⟨zOt q n h.1,i2⟩
theorem zND (q:Bool) (l:List UInt8) (h:(pts l).isSome=true):(pts (escL q l)).isSome=true:=by
 obtain ⟨ns,hns⟩:=Option.isSome_iff_exists.1 h;obtain ⟨e,hm⟩:=(zCz l ns).1 hns;obtain ⟨e2,hm2⟩:=zOF q ns hm;rw [e,e2,zDm hm2]
 rfl
theorem zQH {a b:List UInt8} (ha:(pts a).isSome=true) (hb:(pts b).isSome=true):(pts (a++b)).isSome=true:=by
 obtain ⟨na,h1⟩:=Option.isSome_iff_exists.1 ha;obtain ⟨nb,h2⟩:=Option.isSome_iff_exists.1 hb;obtain ⟨e1,m1⟩:=(zCz a na).1 h1;obtain ⟨e2,m2⟩:=(zCz b nb).1 h2;rw [e1,e2,←zCm,zDm (zDP.2 ⟨m1,m2⟩)]
 rfl
end Es
namespace Lx
open Tx Nmb Es
structure Pr where
 name:List UInt8
 value:List UInt8
structure Tk where
 kind:Nat
 name:List UInt8
 attrs:List Pr
 text:List UInt8
def ltr (c:UInt8):Bool:=(decide (97≤c.toNat)&&decide (c.toNat≤122))||(decide (65≤c.toNat)&&decide (c.toNat≤90))||c==95
def nch (c:UInt8):Bool:=ltr c||(decide (48≤c.toNat)&&decide (c.toNat≤57))||c==46||c==45
def wch (c:UInt8):Bool:=nch c||c==58
def blk (c:UInt8):Bool:=c==32||c==9||c==10||c==13
def zBG:List UInt8→Bool
 | []=>false
 | c::r=>ltr c&&r.all nch
def cutC:List UInt8→Option (List UInt8 × List UInt8)
 | []=>none
 | c::r=>if c=58 then some ([],r) else (cutC r).map fun p=>(c::p.1,p.2)
def zAP (l:List UInt8):Bool:=match cutC l with | some (a,b)=>zBG b&&zBG a | none=>zBG l
theorem zCH:∀{l a b:List UInt8},cutC l=some (a,b)→l=a++58::b∧(58:UInt8)∉a:=by
 intro l
 induction l with
 | nil=>intro a b h;cases h
 | cons c r ih =>
  intro a b h;unfold cutC at h
  by_cases hc:c=58
  · rw [if_pos hc] at h
    obtain ⟨rfl,rfl⟩:=(Prod.mk.injEq _ _ _ _).mp (Option.some.inj h);exact ⟨by rw [hc];rfl,by simp⟩
  · rw [if_neg hc] at h
    cases hr:cutC r with
    | none=>rw [hr] at h;cases h
    | some p =>
     rw [hr] at h;obtain ⟨rfl,rfl⟩:=(Prod.mk.injEq _ _ _ _).mp (Option.some.inj h);obtain ⟨h1,h2⟩:=ih (a:=p.1) (b:=p.2) hr;exact ⟨by rw [h1];rfl,by rw [List.mem_cons,not_or];exact ⟨Ne.symm hc,h2⟩⟩
theorem zDt {c:UInt8} (h:ltr c=true):nch c=true:=by unfold nch;rw [h];rfl
theorem zDb {l:List UInt8} (h:zBG l=true):∀c∈l,nch c=true:=by
 cases l with
 | nil=>cases h
 | cons c r =>
  unfold zBG at h;rw [Bool.and_eq_true] at h;intro x hx;rcases List.mem_cons.1 hx with rfl | hx
  · exact zDt h.1
  · exact List.all_eq_true.1 h.2 x hx
theorem zCI {l:List UInt8} (h:zAP l=true):∀c∈l,wch c=true:=by
 unfold zAP at h
 cases hc:cutC l with
 | none =>
  rw [hc] at h;intro x hx;unfold wch;rw [zDb h x hx]
  rfl
 | some p =>
  obtain ⟨a,b⟩:=p;rw [hc] at h;simp only [Bool.and_eq_true] at h;obtain ⟨rfl,_⟩:=zCH hc;intro x hx;unfold wch;rcases List.mem_append.1 hx with hx | hx
  · rw [zDb h.2 x hx];rfl
  · rcases List.mem_cons.1 hx with rfl | hx
    · decide
    · rw [zDb h.1 x hx];rfl
theorem zDr {l:List UInt8} (h:zAP l=true):l≠[]:=by rintro rfl;cases h
theorem zJH {c:UInt8} (h:wch c=true):blk c=false∧c≠61∧c≠62∧c≠47∧c≠60∧c≠34∧c≠39∧c.toNat < 128∧45≤c.toNat:=by
 revert h
 exact zA4 (fun c=>wch c=true→blk c=false∧c≠61∧c≠62∧c≠47∧c≠60∧c≠34∧c≠39∧c.toNat < 128∧45≤c.toNat) (by decide +kernel) c
theorem zCh {c:UInt8} (h:blk c=true):wch c=false∧c≠61∧c≠62∧c≠47∧c≠60∧c≠34∧c≠39∧c.toNat < 128:=by
 revert h
 exact zA4 (fun c=>blk c=true→wch c=false∧c≠61∧c≠62∧c≠47∧c≠60∧c≠34∧c≠39∧c.toNat < 128) (by decide +kernel) c
theorem zDs {p:UInt8→Bool} {a b:List UInt8} (ha:∀c∈a,p c=true) (hb:∀c r,b=c::r→p c=false):(a++b).takeWhile p=a∧(a++b).dropWhile p=b:=by
 induction a with
 | nil =>
  cases b with
  | nil=>exact ⟨rfl,rfl⟩
  | cons c r =>
   have:=hb c r rfl
   simp [this]
 | cons c a ih =>
  have hc:=ha c (by simp);obtain ⟨h1,h2⟩:=ih (fun x hx=>ha x (by simp [hx]));simp only [List.cons_append,List.takeWhile_cons,List.dropWhile_cons,hc,if_true,h1,h2];refine ⟨?_,?_⟩ <;> first | rfl | trivial
theorem zAU (p:UInt8→Bool) (l:List UInt8):l=l.takeWhile p++l.dropWhile p∧(∀c∈l.takeWhile p,p c=true)∧∀c r,l.dropWhile p=c::r→p c=false:=by
 induction l with
 | nil=>exact ⟨rfl,by simp,fun c r h=>by cases h⟩
 | cons c l ih =>
  by_cases hc:p c=true
  · simp only [List.takeWhile_cons,List.dropWhile_cons,hc,if_true]
    refine ⟨by rw [List.cons_append,←ih.1],fun x hx=>?_,ih.2.2⟩;rcases List.mem_cons.1 hx with rfl | hx
    · exact hc
    · exact ih.2.1 x hx
  · simp only [List.takeWhile_cons,List.dropWhile_cons,hc]
    refine ⟨rfl,by simp,fun x r h=>?_⟩;obtain ⟨rfl,_⟩:=List.cons.inj h;exact Bool.eq_false_iff.2 hc
def zBK (l:List UInt8):List UInt8:=if zAP (l.takeWhile wch) then l.takeWhile wch else []
theorem zEz {a b:List UInt8} (ha:zAP a=true) (hb:∀c r,b=c::r→wch c=false):zBK (a++b)=a:=by
 unfold zBK;rw [(zDs (zCI ha) hb).1,if_pos ha]
theorem zGf {l:List UInt8} (h:zBK l≠[]):zAP (zBK l)=true∧l=zBK l++l.dropWhile wch∧(∀c r,l.dropWhile wch=c::r→wch c=false):=by
 unfold zBK at h ⊢
 by_cases hf:zAP (l.takeWhile wch)=true
 · rw [if_pos hf] at h ⊢
   obtain ⟨h1,_,h3⟩:=zAU wch l;exact ⟨hf,h1,h3⟩
 · rw [if_neg hf] at h
   exact absurd rfl h
def zGT (l:List UInt8):Option (List UInt8):=rd (l.map fun c=>if blk c then 32 else c)
def cutQ (q:UInt8):List UInt8→Option (List UInt8 × List UInt8)
 | []=>none
 | c::r=>if c=q then some ([],r) else (cutQ q r).map fun p=>(c::p.1,p.2)
theorem zL1 {q:UInt8}:∀{l a b:List UInt8},cutQ q l=some (a,b)→l=a++q::b∧q∉a:=by
 intro l
 induction l with
 | nil=>intro a b h;cases h
 | cons c r ih =>
  intro a b h;unfold cutQ at h
  by_cases hc:c=q
  · rw [if_pos hc] at h
    obtain ⟨rfl,rfl⟩:=(Prod.mk.injEq _ _ _ _).mp (Option.some.inj h);exact ⟨by rw [hc];rfl,by simp⟩
  · rw [if_neg hc] at h
    cases hr:cutQ q r with
    | none=>rw [hr] at h;cases h
    | some p =>
     rw [hr] at h;obtain ⟨rfl,rfl⟩:=(Prod.mk.injEq _ _ _ _).mp (Option.some.inj h);obtain ⟨h1,h2⟩:=ih (a:=p.1) (b:=p.2) hr;exact ⟨by rw [h1];rfl,by rw [List.mem_cons,not_or];exact ⟨Ne.symm hc,h2⟩⟩
theorem zMe {q:UInt8}:∀{a:List UInt8} (b:List UInt8),q∉a→cutQ q (a++q::b)=some (a,b):=by
 intro a
 induction a with
 | nil=>intro b _;show (if q=q then _ else _)=_;rw [if_pos rfl]
 | cons c a ih =>
  intro b h;rw [List.mem_cons,not_or] at h;show (if c=q then _ else _)=_;rw [if_neg (Ne.symm h.1)];show Option.map _ (cutQ q (a++q::b))=_;rw [ih b h.2]
  rfl
theorem zLY {q:UInt8}:∀{l:List UInt8},q∉l→cutQ q l=none:=by
 intro l
 induction l with
 | nil=>intro _;rfl
 | cons c l ih =>
  intro h;rw [List.mem_cons,not_or] at h;show (if c=q then _ else _)=_;rw [if_neg (Ne.symm h.1),ih h.2]
  rfl
def valL (l:List UInt8):Option (List UInt8 × List UInt8):=match l with
 | []=>none
 | q::r=>if q=34∨q=39 then match cutQ q r with | none=>none | some (raw,y)=>(zGT raw).map fun v=>(v,y) else none
def zB2 (l:List UInt8):Option (Pr × List UInt8) :=
 if zBK l=[] then none else
 match (l.drop (zBK l).length).dropWhile blk with
 | []=>none
 | c::r=>if c=61 then (valL (r.dropWhile blk)).map fun p=>(⟨zBK l,p.1⟩,p.2) else none
theorem zDq (l v r:List UInt8):valL l=some (v,r)↔∃q raw,l=q::(raw++q::r)∧(q=34∨q=39)∧q∉raw∧zGT raw=some v:=by
 constructor
 · intro h
   unfold valL at h
   cases l with
   | nil=>cases h
   | cons q s =>
    dsimp only at h
    by_cases hq:q=34∨q=39
    · rw [if_pos hq] at h
      cases hc:cutQ q s with
      | none=>rw [hc] at h;cases h
      | some p =>
       obtain ⟨raw,y⟩:=p;rw [hc] at h;dsimp only at h;obtain ⟨e1,e2⟩:=zL1 hc
       cases ht:zGT raw with
       | none=>rw [ht] at h;cases h
       | some v' =>
        rw [ht] at h;obtain ⟨rfl,rfl⟩:=(Prod.mk.injEq _ _ _ _).mp (Option.some.inj h);exact ⟨q,raw,by rw [e1],hq,e2,ht⟩
    · rw [if_neg hq] at h
      cases h
 · rintro ⟨q,raw,rfl,hq,hn,ht⟩
   unfold valL;dsimp only;rw [if_pos hq,zMe _ hn];dsimp only;rw [ht]
   rfl
theorem zCv (l r:List UInt8) (p:Pr):zB2 l=some (p,r)↔∃g1 g2 x,l=p.name++(g1++61::(g2++x))∧zAP p.name=true∧(∀c∈g1,blk c=true)∧(∀c∈g2,blk c=true)∧valL x=some (p.value,r):=by
 constructor
 · intro h
   unfold zB2 at h
   by_cases hw:zBK l=[]
   · rw [if_pos hw] at h;cases h
   · rw [if_neg hw] at h
     obtain ⟨h1,h2,h3⟩:=zGf hw
     have hd:l.drop (zBK l).length=l.dropWhile wch:=by
      conv=>lhs;arg 2;rw [h2]
      rw [List.drop_left]
     rw [hd] at h;obtain ⟨e1,e2,e3⟩:=zAU blk (l.dropWhile wch)
     cases hr:(l.dropWhile wch).dropWhile blk with
     | nil=>rw [hr] at h;cases h
     | cons c s =>
      rw [hr] at h;dsimp only at h
      by_cases hc:c=61
      · rw [if_pos hc] at h
        obtain ⟨f1,f2,f3⟩:=zAU blk s
        cases hv:valL (s.dropWhile blk) with
        | none=>rw [hv] at h;cases h
        | some y =>
         rw [hv] at h;obtain ⟨rfl,rfl⟩:=(Prod.mk.injEq _ _ _ _).mp (Option.some.inj h);refine ⟨_,_,_,?_,h1,e2,f2,hv⟩;show l=zBK l++_;rw [←f1,←hc,←hr,←e1];exact h2
      · rw [if_neg hc] at h;cases h
 · rintro ⟨g1,g2,x,rfl,hf,h1,h2,hv⟩
   have hb:∀c r,g1++61::(g2++x)=c::r→wch c=false:=by
    intro c r e
    cases g1 with
    | nil=>obtain ⟨rfl,_⟩:=List.cons.inj e;decide
    | cons d g=>obtain ⟨rfl,_⟩:=List.cons.inj e;exact (zCh (h1 d (by simp))).1
   have hw:=zEz hf hb;unfold zB2;rw [hw,if_neg (zDr hf),List.drop_left,(zDs h1 (fun c r e=>by obtain ⟨rfl,_⟩:=List.cons.inj e;decide)).2];dsimp only;rw [if_pos rfl]
   have hx:∀c r,x=c::r→blk c=false:=by
    rintro c r' rfl;obtain ⟨q,raw,e,hq,_⟩:=(zDq _ _ _).1 hv;obtain ⟨rfl,_⟩:=List.cons.inj e;rcases hq with rfl | rfl <;> decide
   rw [(zDs h2 hx).2,hv]
   rfl
theorem zB0 {l r:List UInt8} {p:Pr} (h:zB2 l=some (p,r)):r.length+p.name.length+3≤l.length:=by
 obtain ⟨g1,g2,x,rfl,h1,h2,h3,h4⟩:=(zCv _ _ _).1 h;obtain ⟨q,raw,rfl,h5,h6,h7⟩:=(zDq _ _ _).1 h4;simp only [List.length_append,List.length_cons]
 omega
def hasL (l:List Pr) (name:List UInt8):Bool:=l.any fun p=>decide (p.name=name)
def tagF:Nat→List Pr→List UInt8→Option (Bool × List Pr × List UInt8)
 | 0,_,_=>none
 | f+1,acc,l=>match l.dropWhile blk with
  | []=>none
  | c::x=>if c=62 then some (false,acc,x) else if c=47∧x.head?=some 62 then some (true,acc,x.tail) else
   match zB2 (c::x) with
   | none=>none
   | some (p,y)=>if l.length=(c::x).length∨hasL acc p.name=true then none else tagF f (acc++[p]) y
def zDl (l:List UInt8):Option (Tk × List UInt8) :=
 if zBK l=[] then none else
 match (l.drop (zBK l).length).dropWhile blk with
 | []=>none
 | c::r=>if c=62 then some (⟨2,zBK l,[],[]⟩,r) else none
def tagL (l:List UInt8):Option (Tk × List UInt8) :=
 if l.head?=some 47 then zDl l.tail else
 if zBK l=[] then none else
 (tagF (l.length+1) [] (l.drop (zBK l).length)).map fun p=>(⟨if p.1 then 3 else 1,zBK l,p.2.1,[]⟩,p.2.2)
def txt (c:UInt8):Bool:=c != 60
def oneL (l:List UInt8):Option (Tk × List UInt8):=match l with
 | []=>none
 | c::r=>if c=60 then tagL r else (rd (l.takeWhile txt)).map fun x=>(⟨4,[],[],x⟩,l.dropWhile txt)
theorem zAJ (p:UInt8→Bool) (l:List UInt8):(l.dropWhile p).length≤l.length:=by
 have:=congrArg List.length (zAU p l).1;rw [List.length_append] at this
 omega
theorem zRE:∀(f g:Nat) (acc:List Pr) (l:List UInt8),l.length < f→l.length < g→tagF f acc l=tagF g acc l:=by
 intro f
 induction f with
 | zero=>intro g acc l h;omega
 | succ f ih =>
  intro g acc l h1 h2
  cases g with
  | zero=>omega
  | succ g =>
   unfold tagF;have hl:=zAJ blk l
   cases hd:l.dropWhile blk with
   | nil=>rfl
   | cons c x =>
    dsimp only;rw [hd] at hl
    by_cases c1:c=62
    · rw [if_pos c1,if_pos c1]
    · rw [if_neg c1,if_neg c1]
      by_cases c2:c=47∧x.head?=some 62
      · rw [if_pos c2,if_pos c2]
      · rw [if_neg c2,if_neg c2]
        cases ha:zB2 (c::x) with
        | none=>rfl
        | some q =>
         obtain ⟨p,y⟩:=q;dsimp only;have:=zB0 ha
         by_cases c3:l.length=(c::x).length∨hasL acc p.name=true
         · rw [if_pos c3,if_pos c3]
         · rw [if_neg c3,if_neg c3]
           exact ih g _ y (by omega) (by omega)
inductive TagI:List Pr→List UInt8→Bool→List Pr→List UInt8→Prop
 | shut (acc:List Pr) (g x:List UInt8):(∀c∈g,blk c=true)→TagI acc (g++62::x) false acc x
 | bare (acc:List Pr) (g x:List UInt8):(∀c∈g,blk c=true)→TagI acc (g++47::62::x) true acc x
 | attr (acc:List Pr) (g l y:List UInt8) (p:Pr) (b:Bool) (at1:List Pr) (x:List UInt8):(∀c∈g,blk c=true)→g≠[]→zB2 l=some (p,y)→hasL acc p.name=false→TagI (acc++[p]) y b at1 x→TagI acc (g++l) b at1 x
theorem zLI {c:UInt8} {x:List UInt8} {q:Pr × List UInt8} (h:zB2 (c::x)=some q):wch c=true:=by
 obtain ⟨p,y⟩:=q;obtain ⟨g1,g2,z,e,hf,_⟩:=(zCv _ _ _).1 h;have hn:=zDr hf
 cases hp:p.name with
 | nil=>exact absurd hp hn
 | cons d r =>
  rw [hp] at e;obtain ⟨rfl,_⟩:=List.cons.inj e;exact zCI hf c (by rw [hp];simp)
theorem zKA:∀(f:Nat) (acc:List Pr) (l:List UInt8) (b:Bool) (at1:List Pr) (x:List UInt8),l.length < f→(tagF f acc l=some (b,at1,x)↔TagI acc l b at1 x):=by
 intro f
 induction f with
 | zero=>intro acc l b at1 x h;omega
 | succ f ih =>
  intro acc l b at1 x hl;have hsp:=zAU blk l
  constructor
  · intro h
    unfold tagF at h
    cases hd:l.dropWhile blk with
    | nil=>rw [hd] at h;cases h
    | cons c r =>
     rw [hd] at h hsp;dsimp only at h;rw [hsp.1]
     by_cases c1:c=62
     · rw [if_pos c1] at h
       obtain ⟨rfl,rfl,rfl⟩:false=b∧acc=at1∧r=x:=by simpa using h
       rw [c1];exact .shut _ _ _ hsp.2.1
     · rw [if_neg c1] at h
       by_cases c2:c=47∧r.head?=some 62
       · rw [if_pos c2] at h
         obtain ⟨rfl,rfl,rfl⟩:true=b∧acc=at1∧r.tail=x:=by simpa using h
         rw [c2.1]
         cases r with
         | nil=>exact absurd c2.2 (by simp)
         | cons d r =>
          obtain rfl:d=62:=by simpa using c2.2
          exact .bare _ _ _ hsp.2.1
       · rw [if_neg c2] at h
         cases ha:zB2 (c::r) with
         | none=>rw [ha] at h;cases h
         | some q =>
          obtain ⟨p,y⟩:=q;rw [ha] at h;dsimp only at h;have hal:=zB0 ha;have hdl:=zAJ blk l;rw [hd] at hdl
          by_cases c3:l.length=(c::r).length∨hasL acc p.name=true
          · rw [if_pos c3] at h;cases h
          · rw [if_neg c3] at h
            rw [not_or] at c3;refine .attr _ _ _ _ p _ _ _ hsp.2.1 ?_ ha (Bool.eq_false_iff.2 c3.2) ((ih _ _ _ _ _ (by omega)).1 h);intro hg;apply c3.1;have:=congrArg List.length hsp.1;rw [hg] at this;exact this
  · intro h
    unfold tagF
    cases h with
    | shut _ g _ hg =>
     rw [(zDs hg (fun c r e=>by obtain ⟨rfl,_⟩:=List.cons.inj e;decide)).2]
     rfl
    | bare _ g _ hg =>
     rw [(zDs hg (fun c r e=>by obtain ⟨rfl,_⟩:=List.cons.inj e;decide)).2]
     rfl
    | attr _ g l' y p _ _ _ hg hn ha hh ht =>
     cases hl':l' with
     | nil=>rw [hl'] at ha;cases ha
     | cons c r =>
      rw [hl'] at ha hl;have hw:=zLI ha;obtain ⟨w1,_,w3,w4,_⟩:=zJH hw;rw [(zDs hg (fun d s e=>by obtain ⟨rfl,_⟩:=List.cons.inj e;exact w1)).2];dsimp only;have hal:=zB0 ha;rw [if_neg w3,if_neg (fun h=>w4 h.1),ha];dsimp only
      rw [if_neg (by
       rw [not_or];refine ⟨fun e=>hn ?_,by rw [hh];simp⟩;rw [List.length_append] at e;exact List.eq_nil_of_length_eq_zero (by omega))]
      rw [List.length_append] at hl;exact (ih _ _ _ _ _ (by omega)).2 ht
theorem TagI.len {acc:List Pr} {l:List UInt8} {b:Bool} {at1:List Pr} {x:List UInt8} (h:TagI acc l b at1 x):x.length < l.length:=by
 induction h with
 | shut acc g x hg=>simp;omega
 | bare acc g x hg=>simp;omega
 | attr acc g l y p b at1 x hg hn ha hh _ ih =>
  have:=zB0 ha;rw [List.length_append]
  omega
theorem TagI.first {acc:List Pr} {l:List UInt8} {b:Bool} {at1:List Pr} {x:List UInt8} (h:TagI acc l b at1 x):∀c r,l=c::r→wch c=false:=by
 intro c r e
 cases h with
 | shut _ g _ hg =>
  cases g with
  | nil=>obtain ⟨rfl,_⟩:=List.cons.inj e;decide
  | cons d g=>obtain ⟨rfl,_⟩:=List.cons.inj e;exact (zCh (hg d (by simp))).1
 | bare _ g _ hg =>
  cases g with
  | nil=>obtain ⟨rfl,_⟩:=List.cons.inj e;decide
  | cons d g=>obtain ⟨rfl,_⟩:=List.cons.inj e;exact (zCh (hg d (by simp))).1
 | attr _ g l' y p _ _ _ hg hn _ _ _ =>
  cases g with
  | nil=>exact absurd rfl hn
  | cons d g=>obtain ⟨rfl,_⟩:=List.cons.inj e;exact (zCh (hg d (by simp))).1
theorem zDg (l r:List UInt8) (t:Tk):zDl l=some (t,r)↔∃g,l=t.name++(g++62::r)∧zAP t.name=true∧(∀c∈g,blk c=true)∧t=⟨2,t.name,[],[]⟩:=by
 constructor
 · intro h
   unfold zDl at h
   by_cases hw:zBK l=[]
   · rw [if_pos hw] at h;cases h
   · rw [if_neg hw] at h
     obtain ⟨h1,h2,h3⟩:=zGf hw
     have hd:l.drop (zBK l).length=l.dropWhile wch:=by
      conv=>lhs;arg 2;rw [h2]
      rw [List.drop_left]
     rw [hd] at h;obtain ⟨e1,e2,e3⟩:=zAU blk (l.dropWhile wch)
     cases hr:(l.dropWhile wch).dropWhile blk with
     | nil=>rw [hr] at h;cases h
     | cons c s =>
      rw [hr] at h;dsimp only at h
      by_cases hc:c=62
      · rw [if_pos hc] at h
        obtain ⟨rfl,rfl⟩:=(Prod.mk.injEq _ _ _ _).mp (Option.some.inj h);refine ⟨_,?_,h1,e2,rfl⟩;show l=zBK l++_;rw [←hc,←hr,←e1];exact h2
      · rw [if_neg hc] at h;cases h
 · rintro ⟨g,rfl,hf,hg,ht⟩
   have hb:∀c s,g++62::r=c::s→wch c=false:=by
    intro c s e
    cases g with
    | nil=>obtain ⟨rfl,_⟩:=List.cons.inj e;decide
    | cons d g=>obtain ⟨rfl,_⟩:=List.cons.inj e;exact (zCh (hg d (by simp))).1
   unfold zDl;rw [zEz hf hb,if_neg (zDr hf),List.drop_left,(zDs hg (fun c s e=>by obtain ⟨rfl,_⟩:=List.cons.inj e;decide)).2];dsimp only;rw [if_pos rfl,←ht]
theorem zK2 {l:List UInt8} (h:zAP l=true) (z:List UInt8):(l++z).head?≠some 47:=by
 cases l with
 | nil=>cases h
 | cons c r =>
  intro e;obtain rfl:c=47:=by simpa using e
  have:=zCI h 47 (by simp);exact absurd this (by decide)
theorem zC3 (l r:List UInt8) (t:Tk):tagL l=some (t,r)↔(∃g,l=47::(t.name++(g++62::r))∧zAP t.name=true∧(∀c∈g,blk c=true)∧t=⟨2,t.name,[],[]⟩) ∨
 (∃b y,l=t.name++y∧zAP t.name=true∧TagI [] y b t.attrs r∧t=⟨if b then 3 else 1,t.name,t.attrs,[]⟩):=by
 constructor
 · intro h
   unfold tagL at h
   by_cases h0:l.head?=some 47
   · rw [if_pos h0] at h
     left
     cases l with
     | nil=>cases h0
     | cons c s =>
      obtain rfl:c=47:=by simpa using h0
      obtain ⟨g,e,h1,h2,h3⟩:=(zDg _ _ _).1 h;exact ⟨g,by rw [←e];rfl,h1,h2,h3⟩
   · rw [if_neg h0] at h
     right
     by_cases hw:zBK l=[]
     · rw [if_pos hw] at h;cases h
     · rw [if_neg hw] at h
       obtain ⟨h1,h2,h3⟩:=zGf hw
       have hd:l.drop (zBK l).length=l.dropWhile wch:=by
        conv=>lhs;arg 2;rw [h2]
        rw [List.drop_left]
       rw [hd] at h
       cases ht:tagF (l.length+1) [] (l.dropWhile wch) with
       | none=>rw [ht] at h;cases h
       | some q =>
        obtain ⟨b,at1,x⟩:=q;rw [ht] at h;obtain ⟨rfl,rfl⟩:=(Prod.mk.injEq _ _ _ _).mp (Option.some.inj h);exact ⟨b,_,h2,h1,(zKA _ _ _ _ _ _ (by have:=zAJ wch l;omega)).1 ht,rfl⟩
 · rintro (⟨g,rfl,h1,h2,h3⟩ | ⟨b,y,rfl,h1,h2,h3⟩)
   · unfold tagL
     rw [if_pos (show (47::(t.name++(g++62::r))).head?=some 47 from rfl)];exact (zDg _ _ _).2 ⟨g,rfl,h1,h2,h3⟩
   · unfold tagL
     rw [if_neg (zK2 h1 _),zEz h1 h2.first,if_neg (zDr h1),List.drop_left,(zKA _ _ _ _ _ _ (by rw [List.length_append];omega)).2 h2];show some ((⟨if b then 3 else 1,t.name,t.attrs,[]⟩:Tk),r)=_;rw [←h3]
theorem zO4 {l r:List UInt8} {t:Tk} (h:tagL l=some (t,r)):r.length < l.length:=by
 rcases (zC3 _ _ _).1 h with ⟨g,rfl,h1,h2,h3⟩ | ⟨q,y,e,h1,h2,h3⟩
 · simp;omega
 · have:=h2.len
   rw [e,List.length_append]
   omega
theorem zDA {l r:List UInt8} {t:Tk} (h:oneL l=some (t,r)):r.length < l.length:=by
 cases l with
 | nil=>cases h
 | cons c s =>
  unfold oneL at h;dsimp only at h
  by_cases hc:c=60
  · rw [if_pos hc] at h
    have:=zO4 h
    simp
    omega
  · rw [if_neg hc] at h
    have ht:txt c=true:=by simpa [txt] using hc
    cases hr:rd ((c::s).takeWhile txt) with
    | none=>rw [hr] at h;cases h
    | some x =>
     rw [hr] at h;obtain ⟨_,rfl⟩:=(Prod.mk.injEq _ _ _ _).mp (Option.some.inj h);simp only [List.dropWhile_cons,ht,if_true];have:=zAJ txt s
     simp
     omega
def isP (l:List UInt8):Bool:=(pts l).isSome
theorem zCe {ns:List Nat} (h:mays ns):isP (encs ns)=true:=by unfold isP;rw [zDm h];rfl
theorem zJ9 {l:List UInt8} (h:isP l=true):∃ns,l=encs ns∧mays ns:=by
 obtain ⟨ns,hns⟩:=Option.isSome_iff_exists.1 h;exact ⟨ns,(zCz l ns).1 hns⟩
theorem zBL {a b:List UInt8} (ha:isP a=true) (hb:isP b=true):isP (a++b)=true:=zQH ha hb
theorem zC9 {n:Nat} (h:n < 128):enc n=[bt n]:=by unfold enc;rw [if_pos h]
theorem zNM:∀(ns:List Nat) (a b:List UInt8) (c:UInt8),mays ns→c.toNat < 128→encs ns=a++c::b→isP a=true∧isP b=true∧may (c.toNat:Int)=true:=by
 intro ns
 induction ns with
 | nil =>
  intro a b c _ _ e
  cases a <;> cases e
 | cons n ns ih =>
  intro a b c hm hc e;rw [zAw] at hm;rw [zAl] at e;have hs:=zEr hm.1;obtain ⟨h1,h2⟩:=zBJ n
  by_cases hl:(enc n).length≤a.length
  · have ea:a=enc n++a.drop (enc n).length:=by
     have:=congrArg (List.take (enc n).length) e;rw [List.take_left,List.take_append_of_le_length hl] at this
     conv=>lhs;rw [←List.take_append_drop (enc n).length a]
     rw [←this]
    have e2:encs ns=a.drop (enc n).length++c::b:=by
     rw [ea,List.append_assoc] at e;exact List.append_cancel_left e
    obtain ⟨i1,i2,i3⟩:=ih _ _ _ hm.2 hc e2;refine ⟨?_,i2,i3⟩;rw [ea];refine zBL ?_ i1;have:=zCe (ns:=[n]) (zAw.2 ⟨hm.1,zCk⟩)
    rwa [zAl,zCg,List.append_nil] at this
  · have e2:(enc n).drop a.length++encs ns=c::b:=by
     have:=congrArg (List.drop a.length) e
     rwa [List.drop_left,List.drop_append_of_le_length (by omega)] at this
    by_cases h0:a.length=0
    · obtain rfl:=List.eq_nil_of_length_eq_zero h0
      rw [List.length_nil,List.drop_zero] at e2
      by_cases hn:n < 128
      · rw [zC9 hn] at e2
        obtain ⟨rfl,rfl⟩:=List.cons.inj e2;rw [zBH n (by omega)];exact ⟨rfl,zCe hm.2,hm.1⟩
      · exfalso
        cases he:enc n with
        | nil=>rw [he] at h1;simp at h1
        | cons d r =>
         rw [he] at e2;obtain ⟨rfl,_⟩:=List.cons.inj e2;have:=zDz n (by omega) hs d (by rw [he];simp)
         omega
    · exfalso
      obtain ⟨d,r,e3,hd⟩:=zPG n hs a.length (by omega) (by omega);rw [e3] at e2;obtain ⟨rfl,_⟩:=List.cons.inj e2;unfold cont at hd;have:=of_decide_eq_true hd
      omega
theorem zA2 {a b:List UInt8} {c:UInt8} (h:isP (a++c::b)=true) (hc:c.toNat < 128):isP a=true∧isP b=true∧may (c.toNat:Int)=true:=by
 obtain ⟨ns,e,hm⟩:=zJ9 h;exact zNM ns a b c hm hc e.symm
theorem zJP {c:UInt8} (h:c.toNat < 128) (hm:may (c.toNat:Int)=true):isP [c]=true:=by
 have:=zCe (ns:=[c.toNat]) (zAw.2 ⟨hm,zCk⟩)
 rwa [zAl,zCg,List.append_nil,zC9 h,zEN c _ rfl] at this
theorem zL9 (f:UInt8→UInt8) (hf:∀c,128≤c.toNat→f c=c) (hf2:∀c,c.toNat < 128→may (c.toNat:Int)=true→(f c).toNat < 128∧may ((f c).toNat:Int)=true) {l:List UInt8} (h:isP l=true):isP (l.map f)=true:=by
 obtain ⟨ns,rfl,hm⟩:=zJ9 h;clear h
 induction ns with
 | nil=>rfl
 | cons n ns ih =>
  rw [zAw] at hm;rw [zAl,List.map_append];refine zBL ?_ (ih hm.2)
  by_cases hn:n < 128
  · rw [zC9 hn]
    have hb:(bt n).toNat=n:=zBH n (by omega);obtain ⟨q1,q2⟩:=hf2 (bt n) (by omega) (by rw [hb];exact hm.1);exact zJP q1 q2
  · have he:(enc n).map f=enc n:=by
     have:=zDz n (by omega) (zEr hm.1);rw [List.map_congr_left (g:=id) (fun x hx=>hf x (this x hx)),List.map_id]
    rw [he];have:=zCe (ns:=[n]) (zAw.2 ⟨hm.1,zCk⟩)
    rwa [zAl,zCg,List.append_nil] at this
theorem zNJ {n:Nat} (h:may (n:Int)=true):isP (enc n)=true:=by
 have:=zCe (ns:=[n]) (zAw.2 ⟨h,zCk⟩)
 rwa [zAl,zCg,List.append_nil] at this
theorem zFI {x y:List UInt8} (h:zBc x=some y):isP y=true∧y.length≤x.length+2∧y≠[]:=by
 unfold zBc at h
 by_cases h1:x=[97,109,112]
 · rw [if_pos h1] at h;cases h;exact ⟨by decide +kernel,by simp,by simp⟩
 rw [if_neg h1] at h
 by_cases h2:x=[108,116]
 · rw [if_pos h2] at h;cases h;exact ⟨by decide +kernel,by simp,by simp⟩
 rw [if_neg h2] at h
 by_cases h3:x=[103,116]
 · rw [if_pos h3] at h;cases h;exact ⟨by decide +kernel,by simp,by simp⟩
 rw [if_neg h3] at h
 by_cases h4:x=[113,117,111,116]
 · rw [if_pos h4] at h;cases h;exact ⟨by decide +kernel,by simp,by simp⟩
 rw [if_neg h4] at h
 by_cases h5:x=[97,112,111,115]
 · rw [if_pos h5] at h;cases h;exact ⟨by decide +kernel,by simp,by simp⟩
 rw [if_neg h5] at h
 split at h
 · rename_i r
   cases hn:numL r with
   | none=>rw [hn] at h;cases h
   | some n =>
    rw [hn] at h;obtain rfl:=Option.some.inj h
    have hm:may (n:Int)=true:=by
     unfold numL at hn;exact (Option.filter_eq_some_iff.1 hn).2
    have hr:1≤r.length:=by
     cases r with
     | nil=>unfold numL at hn;cases hn
     | cons c r=>simp
    have:=zBJ n;refine ⟨zNJ hm,by rw [List.length_cons];omega,fun e=>?_⟩;rw [e] at this
    simp at this
 · cases h
theorem zMq:∀(k:Nat) (l z:List UInt8),l.length≤k→isP l=true→rd l=some z→isP z=true:=by
 intro k
 induction k with
 | zero =>
  intro l z hl hp h;obtain rfl:=List.eq_nil_of_length_eq_zero (Nat.le_zero.1 hl)
  cases h
  rfl
 | succ k ih =>
  intro l z hl hp h;obtain ⟨ns,rfl,hm⟩:=zJ9 hp
  cases ns with
  | nil=>cases h;rfl
  | cons n ns =>
   rw [zAw] at hm;rw [zAl] at h hl;have hel:=zBJ n;rw [List.length_append] at hl
   by_cases hn:n < 128
   · have hb:(bt n).toNat=n:=zBH n (by omega)
     rw [zC9 hn] at h hl;rw [List.singleton_append] at h
     by_cases h60:bt n=60
     · rw [h60,zJ4] at h;cases h
     · by_cases h38:bt n=38
       · rw [h38,zFK] at h
         cases hs:semi (encs ns) with
         | none=>rw [hs] at h;cases h
         | some q =>
          obtain ⟨x,t⟩:=q;rw [hs] at h;dsimp only at h
          cases hx:zBc x with
          | none=>rw [hx] at h;cases h
          | some y =>
           rw [hx] at h;dsimp only at h
           cases ht:rd t with
           | none=>rw [ht] at h;cases h
           | some z' =>
            rw [ht] at h;obtain rfl:=Option.some.inj h;obtain ⟨e,_⟩:=zCJ _ _ _ hs;obtain ⟨_,q2,_⟩:=zNM ns x t 59 hm.2 (by decide) e;have he:=congrArg List.length e;rw [List.length_append,List.length_cons] at he;exact zBL (zFI hx).1 (ih t z' (by simp at hl;omega) q2 ht)
       · rw [zDO _ _ h60 h38] at h
         cases ht:rd (encs ns) with
         | none=>rw [ht] at h;cases h
         | some z' =>
          rw [ht] at h;obtain rfl:=Option.some.inj h;have:=zBL (zJP (c:=bt n) (by omega) (by rw [hb];exact hm.1)) (ih _ z' (by simp at hl;omega) (zCe hm.2) ht);exact this
   · have hf:=zDz n (by omega) (zEr hm.1)
     have hr:∀(e:List UInt8),(∀x∈e,128≤x.toNat)→∀r,rd (e++r)=(rd r).map (e++·):=by
      intro e
      induction e with
      | nil=>intro _ r;simp
      | cons c e ihe =>
       intro he r;have hc:=he c (by simp);rw [List.cons_append,zDO c _ (by rintro rfl;exact absurd hc (by decide)) (by rintro rfl;exact absurd hc (by decide)),ihe (fun x hx=>he x (by simp [hx])) r]
       cases rd r <;> rfl
     rw [hr _ hf] at h
     cases ht:rd (encs ns) with
     | none=>rw [ht] at h;cases h
     | some z' =>
      rw [ht] at h;obtain rfl:=Option.some.inj h;exact zBL (zNJ hm.1) (ih _ z' (by omega) (zCe hm.2) ht)
theorem zPZ:∀(k:Nat) (l z:List UInt8),l.length≤k→rd l=some z→z.length≤l.length∧(l≠[]→z≠[]):=by
 intro k
 induction k with
 | zero =>
  intro l z hl h;obtain rfl:=List.eq_nil_of_length_eq_zero (Nat.le_zero.1 hl)
  cases h
  exact ⟨Nat.le_refl _,fun h=>absurd rfl h⟩
 | succ k ih =>
  intro l z hl h
  cases l with
  | nil=>cases h;exact ⟨Nat.le_refl _,fun h=>absurd rfl h⟩
  | cons c r =>
   rw [List.length_cons] at hl
   by_cases h60:c=60
   · rw [h60,zJ4] at h;cases h
   · by_cases h38:c=38
     · rw [h38,zFK] at h
       cases hs:semi r with
       | none=>rw [hs] at h;cases h
       | some q =>
        obtain ⟨x,t⟩:=q;rw [hs] at h;dsimp only at h
        cases hx:zBc x with
        | none=>rw [hx] at h;cases h
        | some y =>
         rw [hx] at h;dsimp only at h
         cases ht:rd t with
         | none=>rw [ht] at h;cases h
         | some z' =>
          rw [ht] at h;obtain rfl:=Option.some.inj h;obtain ⟨e,_⟩:=zCJ _ _ _ hs;obtain ⟨_,m2,m3⟩:=zFI hx;have he:=congrArg List.length e;rw [List.length_append,List.length_cons] at he;have:=(ih t z' (by omega) ht).1;refine ⟨by rw [List.length_append,List.length_cons];omega,fun _ e=>m3 (List.append_eq_nil_iff.1 e).1⟩
     · rw [zDO _ _ h60 h38] at h
       cases ht:rd r with
       | none=>rw [ht] at h;cases h
       | some z' =>
        rw [ht] at h;obtain rfl:=Option.some.inj h;have:=(ih r z' (by omega) ht).1;exact ⟨by rw [List.length_cons,List.length_cons];omega,fun _ e=>by cases e⟩
theorem zKv {l v:List UInt8} (hp:isP l=true) (h:zGT l=some v):isP v=true∧v.length≤l.length:=by
 have hm:isP (l.map fun c=>if blk c then 32 else c)=true:=by
  refine zL9 _ (fun c hc=>?_) (fun c hc hc2=>?_) hp
  · rw [if_neg]
    intro hb;have:=(zCh hb).2.2.2.2.2.2.2
    omega
  · by_cases hb:blk c=true
    · rw [if_pos hb];exact ⟨by decide,by decide⟩
    · rw [if_neg hb];exact ⟨hc,hc2⟩
 have h2:=(zPZ _ _ _ (Nat.le_refl _) h).1;rw [List.length_map] at h2;exact ⟨zMq _ _ _ (Nat.le_refl _) hm h,h2⟩
theorem zLb (v:List UInt8):zGT (escL true v)=some v:=by
 unfold zGT;rw [List.map_congr_left (g:=id),List.map_id,zPN];intro x hx;obtain ⟨h1,h2,h3,h4⟩:=zJL true v x hx;obtain ⟨_,h5,h6⟩:=h4 rfl
 by_cases hb:blk x=true
 · rw [if_pos hb]
   unfold blk at hb;simp only [Bool.or_eq_true,beq_iff_eq] at hb;rcases hb with ((rfl | rfl) | rfl) | rfl
   · rfl
   · exact absurd rfl h5
   · exact absurd rfl h6
   · exact absurd rfl h3
 · rw [if_neg hb]
   rfl
end Lx
end Go.Proofs.YtlgppednjkbgiaaGreatDoor
