/-
  Texts of one seat, put together: EscF, EscG, BldA, EscB, EscH, EscV.
-/
import Derived.Test.YtlgppednjkbgiaaGreatDoorMbA
import Derived.Test.YtlgppednjkbgiaaGreatDoorMb09
import Derived.Laws.EntriesVeiled
import Derived.Lib.IndexLaws
import Derived.RegionTactic
import Derived.Test.YtlgppednjkbgiaaGreatDoorMb00
import Derived.Test.YtlgppednjkbgiaaGreatDoorShelf
import Derived.Lib.OthersKept
import Derived.Lib.FrozenHead2
import Derived.Laws.Externs
import Derived.Test.YtlgppednjkbgiaaGreatDoorMb08
import Derived.Test.YtlgppednjkbgiaaGreatDoorMb05
import Derived.Test.YtlgppednjkbgiaaGreatDoorMb06
set_option maxRecDepth 100000
set_option maxHeartbeats 16000000
set_option linter.unusedVariables false
namespace Go.Proofs.YtlgppednjkbgiaaGreatDoor
open Go.RowKit Go.Proofs.Tryz
namespace Hx
open Tx Nmb Es
def pxR (l p:List UInt8):ByteArray:=⟨(Lib.trimPrefix l p).toArray⟩
theorem cutx (s r:ByteArray) (b:Bool) (w:World) (h:Lib.hasPrefix s.data.toList [35,120]=b) (hr:pxR s.data.toList [35,120]=r) :
 Calls prog 198 #[.string s,.string ⟨#[35,120]⟩] w fun e w'=>e=.returned (.tuple #[.string r,.bool b])∧w=w' :=
 (Tryz.strings_CutPrefix s ⟨#[35,120]⟩ w).mono fun e w' ⟨h1,h2⟩=>⟨by rw [h1,←h,←hr];rfl,h2.symm⟩
theorem cutd (s r:ByteArray) (b:Bool) (w:World) (h:Lib.hasPrefix s.data.toList [35]=b) (hr:pxR s.data.toList [35]=r) :
 Calls prog 198 #[.string s,.string ⟨#[35]⟩] w fun e w'=>e=.returned (.tuple #[.string r,.bool b])∧w=w' :=
 (Tryz.strings_CutPrefix s ⟨#[35]⟩ w).mono fun e w' ⟨h1,h2⟩=>⟨by rw [h1,←h,←hr];rfl,h2.symm⟩
def ptR (l:List UInt8):Int × Int :=
 match wdO l with
 | some n=>(n,0)
 | none=>if Lib.hasPrefix l [35,120] then hexI (pxR l [35,120]).data.toList else if Lib.hasPrefix l [35] then zFO (pxR l [35]).data.toList else (0,80)
theorem zNK (s:ByteArray) (p:List UInt8):(pxR s.data.toList p).size≤s.size:=by
 have h:(pxR s.data.toList p).size=(Lib.trimPrefix s.data.toList p).length:=rfl;have h2:=zAV s;rw [h];unfold Lib.trimPrefix
 split
 · rw [List.length_drop];omega
 · omega
theorem zKs (M G:Nat) (s:ByteArray) (n:Int) (w:World) (hr:Rdr M G w) (h:wdO s.data.toList=some n) :
 Calls prog 247 #[RdV M G,.string s] w fun e w'=>e=.returned (.tuple #[.int .i64 n,.int .i64 0])∧Below w.heap.size w w':=by
 have HLk:Hid (∀W,Below w.heap.size w W→(Instr.lookup 246 (.map (some M)) (.string s) true).run prog W=.ok (.tuple #[.int .i64 n,.bool true]) W):=by
  intro W hW;rw [zRo s W M (hr.to hW).1,h]
  rfl
 have HB:Hid (∀o,Below w.heap.size w (w.alloc o)):=hI fun o=>(Below.refl _ _).alloc (Nat.le_refl _) o
 clear h hr;unfold RdV
 go_enter func247,ntmps247
 go_wp2_with (first
  | (refine zCB rfl _ _ _ rfl rfl rfl (HLk.out _ (HB.out _)) ?_)
  | fail)
 go_ret2
 exact ⟨rfl,HB.out _⟩
theorem zK3 (M G:Nat) (s:ByteArray) (a b:Int) (w:World) (hm:s.size≤1000000) (hr:Rdr M G w) (hE:Ev w) (h:wdO s.data.toList=none) (hp:ptR s.data.toList=(a,b)) :
 Calls prog 247 #[RdV M G,.string s] w fun e w'=>e=.returned (.tuple #[.int .i64 a,.int .i64 b])∧Below w.heap.size w w':=by
 have HLk:Hid (∀W,Below w.heap.size w W→(Instr.lookup 246 (.map (some M)) (.string s) true).run prog W=.ok (.tuple #[.int .i64 0,.bool false]) W):=by
  intro W hW;rw [zRo s W M (hr.to hW).1,h]
  rfl
 have HB:Hid (∀o,Below w.heap.size w (w.alloc o)):=hI fun o=>(Below.refl _ _).alloc (Nat.le_refl _) o
 have HEv:Hid (∀W,Below w.heap.size w W→Ev W):=hI fun W hW=>hE.to hW
 have HG:Hid (∀W,Below w.heap.size w W→W.heap[G]?=some (.cells BS 267)):=hI fun W hW=>(hr.to hW).2
 obtain ⟨p1,hp1⟩:∃p1,Lib.hasPrefix s.data.toList [35,120]=p1:=⟨_,rfl⟩;obtain ⟨p2,hp2⟩:∃p2,Lib.hasPrefix s.data.toList [35]=p2:=⟨_,rfl⟩;obtain ⟨r1,hr1⟩:∃r1,pxR s.data.toList [35,120]=r1:=⟨_,rfl⟩;obtain ⟨r2,hr2⟩:∃r2,pxR s.data.toList [35]=r2:=⟨_,rfl⟩;have HM1:Hid (r1.size≤1000000):=by show _≤_;rw [←hr1];exact Nat.le_trans (zNK _ _) hm
 have HM2:Hid (r2.size≤1000000):=by show _≤_;rw [←hr2];exact Nat.le_trans (zNK _ _) hm
 have HP:Hid ((if p1 then hexI r1.data.toList else if p2 then zFO r2.data.toList else (0,80))=(a,b)):=by
  show _=_;unfold ptR at hp;rw [h,hp1,hp2,hr1,hr2] at hp;exact hp
 have H1:=hI hp1;have H2:=hI hp2;have HR1:=hI hr1;have HR2:=hI hr2;clear h hr hE hp hp1 hp2 hr1 hr2 hm;unfold RdV
 go_enter func247,ntmps247
 go_wp2_with (first
  | (refine zCB rfl _ _ _ rfl rfl rfl (HLk.out _ (HB.out _)) ?_)
  | fail)
 go_loopg [9,10,11,24] 2 (fun gg x9 x10 x11 i wr=>∃k:Nat,k+gg=2∧i=.int .i64 k∧Below w.heap.size w wr∧(1≤k→p1=false)∧(2≤k→p2=false))
 case atStart=>exact ⟨0,by omega,rfl,HB.out _,fun h=>absurd h (by decide),fun h=>absurd h (by decide)⟩
 case round =>
  obtain ⟨k,hk,rfl,hbw,hk1,hk2⟩:=hrel;have hgc:=HG.out wr hbw;have c0:wr.cell? ⟨G,0,none⟩=some (.string ⟨#[35,120]⟩):=by rw [Lib.cell_of_heap hgc];rfl
  have c1:wr.cell? ⟨G,1,none⟩=some (.func (.func 245) #[] #[]):=by rw [Lib.cell_of_heap hgc];rfl
  have c2:wr.cell? ⟨G,2,none⟩=some (.string ⟨#[35]⟩):=by rw [Lib.cell_of_heap hgc];rfl
  have c3:wr.cell? ⟨G,3,none⟩=some (.func (.func 246) #[] #[]):=by rw [Lib.cell_of_heap hgc];rfl
  have HBW:=hI hbw;have hsz:=hbw.size;have HB2:Hid (∀o,Below w.heap.size w (wr.alloc o)):=hI fun o=>hbw.alloc hsz o
  clear hgc hbw;have hk3:k=0∨k=1∨k=2:=by omega
  rcases hk3 with rfl | rfl | rfl
  · cases p1 with
    | true =>
     have hx:hexI r1.data.toList=(a,b):=HP.out;have HX:=hI hx;clear hx hk1 hk2
     go_wp2_with (first
      | (go_at_call 198;(with_reducible refine (cutx s r1 true _ H1.out HR1.out).mono ?_);rintro e1 w1 ⟨rfl,rfl⟩)
      | (go_at_call 245;(with_reducible refine (hex8 r1 a b _ HM1.out HX.out (HEv.out _ (HB2.out _))).mono ?_);rintro e2 w2 ⟨rfl,hb2⟩)
      | fail)
     go_ret2
     exact ⟨rfl,zAj (HB2.out _) hb2 (HB2.out _).size⟩
    | false =>
     go_wp2_with (first
      | (go_at_call 198;(with_reducible refine (cutx s r1 false _ H1.out HR1.out).mono ?_);rintro e1 w1 ⟨rfl,rfl⟩)
      | fail)
     go_roundg (gk - 1)
     case rel=>exact ⟨1,by omega,by go_num,HB2.out _,by simp,fun h=>absurd h (by decide)⟩
     case measure=>omega
  · obtain rfl:p1=false:=hk1 (by decide)
    cases p2 with
    | true =>
     have hx:zFO r2.data.toList=(a,b):=HP.out;have HX:=hI hx;clear hx hk1 hk2
     go_wp2_with (first
      | (go_at_call 198;(with_reducible refine (cutd s r2 true _ H2.out HR2.out).mono ?_);rintro e1 w1 ⟨rfl,rfl⟩)
      | (go_at_call 246;(with_reducible refine (zST r2 _ HM2.out a b HX.out).mono ?_);rintro e2 w2 ⟨rfl,hb2⟩)
      | fail)
     go_ret2
     exact ⟨rfl,zAj (HB2.out _) hb2 (HB2.out _).size⟩
    | false =>
     go_wp2_with (first
      | (go_at_call 198;(with_reducible refine (cutd s r2 false _ H2.out HR2.out).mono ?_);rintro e1 w1 ⟨rfl,rfl⟩)
      | fail)
     go_roundg (gk - 1)
     case rel=>exact ⟨2,by omega,by go_num,HB2.out _,by simp,by simp⟩
     case measure=>omega
  · obtain rfl:p1=false:=hk1 (by decide)
    obtain rfl:p2=false:=hk2 (by decide);obtain ⟨rfl,rfl⟩:(0:Int)=a∧(80:Int)=b:=by have hx:((0:Int),(80:Int))=(a,b):=HP.out;cases hx;exact ⟨rfl,rfl⟩
    clear hk1 hk2
    go_wp2_with fail
    go_ret2
    exact ⟨rfl,HBW.out⟩
theorem zMg (M G:Nat) (s:ByteArray) (a b:Int) (w:World) (hm:s.size≤1000000) (hr:Rdr M G w) (hE:Ev w) (hp:ptR s.data.toList=(a,b)) :
 Calls prog 247 #[RdV M G,.string s] w fun e w'=>e=.returned (.tuple #[.int .i64 a,.int .i64 b])∧Below w.heap.size w w':=by
 cases h:wdO s.data.toList with
 | none=>exact zK3 M G s a b w hm hr hE h hp
 | some n =>
  unfold ptR at hp;rw [h] at hp;obtain ⟨rfl,rfl⟩:n=a∧(0:Int)=b:=by cases hp;exact ⟨rfl,rfl⟩
  exact zKs M G s n w hr h
def refR (l:List UInt8):ByteArray × Int:=match zBc l with | some y=>(⟨y.toArray⟩,0) | none=>(⟨#[]⟩,80)
theorem zRx (n:Nat):(enc n).length≤4:=by
 unfold enc
 split
 · simp
 · split
   · simp
   · split <;> simp
theorem zQA (n:Nat):ofR [(n:Int)]=if may (n:Int)=true then (⟨(enc n).toArray⟩,0) else (⟨#[]⟩,50):=by
 by_cases h:may (n:Int)=true
 · rw [if_pos h]
   have hb:byL [(n:Int)]=enc n:=by simp [byL,zAl,zCg]
   have he:=zRx n;rw [zPM _ (by simpa using h) (by rw [hb];omega),hb]
 · rw [if_neg h]
   exact zPa _ 0 (by simp) (by simpa using h)
def zQI (l:List UInt8):Option (List UInt8):=match l with | 35::r=>(numL r).map enc | _=>none
theorem zN9 {l:List UInt8} (h:∀r,l≠35::r):zQI l=none:=by
 unfold zQI
 split
 · exact absurd rfl (h _)
 · rfl
theorem zJJ (l:List UInt8) (h:wdO l=none):zBc l=zQI l:=by
 unfold wdO at h;unfold zBc
 by_cases h1:l=[97,109,112]
 · rw [if_pos h1] at h;cases h
 rw [if_neg h1] at h ⊢
 by_cases h2:l=[108,116]
 · rw [if_pos h2] at h;cases h
 rw [if_neg h2] at h ⊢
 by_cases h3:l=[103,116]
 · rw [if_pos h3] at h;cases h
 rw [if_neg h3] at h ⊢
 by_cases h4:l=[113,117,111,116]
 · rw [if_pos h4] at h;cases h
 rw [if_neg h4] at h ⊢
 by_cases h5:l=[97,112,111,115]
 · rw [if_pos h5] at h;cases h
 rw [if_neg h5] at h ⊢
 rfl
theorem zSj (l:List UInt8):(∃r,l=35::120::r∧Lib.hasPrefix l [35,120]=true∧Lib.trimPrefix l [35,120]=r)∨((∀r,l≠35::120::r)∧Lib.hasPrefix l [35,120]=false):=by
 cases h:Lib.hasPrefix l [35,120] with
 | true =>
  have h2:[35,120] <+: l:=by unfold Lib.hasPrefix at h;exact List.isPrefixOf_iff_prefix.1 h
  obtain ⟨r,rfl⟩:=h2;refine .inl ⟨r,rfl,rfl,?_⟩;unfold Lib.trimPrefix;rw [if_pos h]
  rfl
 | false =>
  refine .inr ⟨fun r e=>?_,rfl⟩;subst e;have:Lib.hasPrefix (35::120::r) [35,120]=true:=by unfold Lib.hasPrefix;exact List.isPrefixOf_iff_prefix.2 ⟨r,rfl⟩
  rw [this] at h
  cases h
theorem zSh (l:List UInt8):(∃r,l=35::r∧Lib.hasPrefix l [35]=true∧Lib.trimPrefix l [35]=r)∨((∀r,l≠35::r)∧Lib.hasPrefix l [35]=false):=by
 cases h:Lib.hasPrefix l [35] with
 | true =>
  have h2:[35] <+: l:=by unfold Lib.hasPrefix at h;exact List.isPrefixOf_iff_prefix.1 h
  obtain ⟨r,rfl⟩:=h2;refine .inl ⟨r,rfl,rfl,?_⟩;unfold Lib.trimPrefix;rw [if_pos h]
  rfl
 | false =>
  refine .inr ⟨fun r e=>?_,rfl⟩;subst e;have:Lib.hasPrefix (35::r) [35]=true:=by unfold Lib.hasPrefix;exact List.isPrefixOf_iff_prefix.2 ⟨r,rfl⟩
  rw [this] at h
  cases h
def numP (k:Int) (o:Option Nat):Int × Int:=match o with | some n=>((n:Int),0) | none=>(0,k)
def numA (n:Nat):ByteArray × Int:=if may (n:Int)=true then (⟨(enc n).toArray⟩,0) else (⟨#[]⟩,80)
theorem zMX (l:List UInt8) (o:Option Nat) (k a b:Int) (hk:k≠0) (hml:zBc l=(o.filter fun n:Nat=>may (n:Int)).map enc) (hx:numP k o=(a,b)) :
 (b≠0∧refR l=(⟨#[]⟩,80))∨(b=0∧∃n:Nat,a=(n:Int)∧refR l=numA n):=by
 cases o with
 | none =>
  cases hx
  refine .inl ⟨hk,?_⟩;unfold refR;rw [hml]
  rfl
 | some n =>
  cases hx
  refine .inr ⟨rfl,n,rfl,?_⟩;unfold refR numA;rw [hml]
  by_cases hm:may (n:Int)=true
  · rw [if_pos hm,Option.filter_some,if_pos hm]
    rfl
  · rw [if_neg hm,Option.filter_some,if_neg hm]
    rfl
theorem zMK (l:List UInt8) (a b:Int) (h:ptR l=(a,b)):(b≠0∧refR l=(⟨#[]⟩,80))∨(b=0∧∃n:Nat,a=(n:Int)∧refR l=numA n):=by
 unfold ptR at h
 cases hw:wdO l with
 | some n =>
  rw [hw] at h;obtain ⟨rfl,rfl⟩:n=a∧(0:Int)=b:=by cases h;exact ⟨rfl,rfl⟩
  refine .inr ⟨rfl,?_⟩;unfold wdO at hw
  split at hw
  · rename_i e;subst e;cases hw;exact ⟨38,rfl,by decide +kernel⟩
  split at hw
  · rename_i e;subst e;cases hw;exact ⟨60,rfl,by decide +kernel⟩
  split at hw
  · rename_i e;subst e;cases hw;exact ⟨62,rfl,by decide +kernel⟩
  split at hw
  · rename_i e;subst e;cases hw;exact ⟨34,rfl,by decide +kernel⟩
  split at hw
  · rename_i e;subst e;cases hw;exact ⟨39,rfl,by decide +kernel⟩
  · cases hw
 | none =>
  rw [hw] at h;have hml:=zJJ l hw;rcases zSj l with ⟨r,rfl,e1,e2⟩ | ⟨e0,e1⟩
  · dsimp only at h
    rw [if_pos e1] at h;have e3:(pxR (35::120::r) [35,120]).data.toList=r:=e2;rw [e3] at h;exact zMX _ (hexV r) 80 a b (by decide) hml h
  · dsimp only at h
    rw [e1,if_neg (by decide)] at h;rcases zSh l with ⟨r,rfl,e4,e5⟩ | ⟨e3,e4⟩
    · rw [if_pos e4] at h
      have e6:(pxR (35::r) [35]).data.toList=r:=e5;rw [e6] at h
      have hd:r.head?≠some 120:=by
       intro hh
       cases r with
       | nil=>cases hh
       | cons c r =>
        cases hh
        exact e0 r rfl
      have hml2:zBc (35::r)=(numL r).map enc:=hml;rw [zPg hd] at hml2;exact zMX _ (zDZ r) 60 a b (by decide) hml2 h
    · rw [e4,if_neg (by decide)] at h
      obtain ⟨rfl,rfl⟩:(0:Int)=a∧(80:Int)=b:=by cases h;exact ⟨rfl,rfl⟩
      refine .inl ⟨by decide,?_⟩;unfold refR;rw [hml,zN9 e3]
theorem zGU (l:List UInt8) (c:UInt8):(Lib.indexByte l c= -1∧c∉l)∨∃i:Nat,Lib.indexByte l c=(i:Int)∧i < l.length∧l=l.take i++c::l.drop (i+1)∧c∉l.take i:=by
 have hge:=Lib.indexByte_ge l c
 by_cases h:Lib.indexByte l c= -1
 · left
   refine ⟨h,fun hc=>?_⟩;obtain ⟨k,hk⟩:=List.mem_iff_getElem?.1 hc;exact Lib.indexByte_none h k hk
 · right
   obtain ⟨i,hi⟩:∃i:Nat,Lib.indexByte l c=(i:Int):=⟨(Lib.indexByte l c).toNat,by omega⟩;obtain ⟨h1,h2⟩:=Lib.indexByte_some hi;obtain ⟨hlt,hc⟩:=List.getElem?_eq_some_iff.1 h1;refine ⟨i,hi,hlt,?_,fun hm=>?_⟩
   · conv=>lhs;rw [←List.take_append_drop i l]
     rw [List.drop_eq_getElem_cons hlt,hc]
   · obtain ⟨k,hk⟩:=List.mem_iff_getElem?.1 hm
     rw [List.getElem?_take] at hk
     split at hk
     · exact h2 k (by assumption) hk
     · cases hk
def zEP (p r:ByteArray) (b:Bool) (w:World) (e:Ending) (w':World):Prop:=e=.returned (.tuple #[.string p,.string r,.bool b])∧Below w.heap.size w w'
theorem zSi (s:ByteArray) (q:Int) (w:World) (h:Lib.indexByte s.data.toList 38=q) :
 Calls prog 187 #[.string s,.int .u8 ↑((⟨#[38]⟩:ByteArray)[0]'(by decide)).toNat] w fun e w'=>e=.returned (.int .i64 q)∧w=w':=by
 refine (Tryz.stringslite_IndexByte s _ w).mono fun e w' ⟨h1,h2⟩=>⟨?_,h2.symm⟩
 rw [h1,←h]
 rfl
theorem zKF (s:ByteArray) (q:Int) (w:World) (h:Lib.indexByte s.data.toList 38=q) :
 Calls prog 159 #[.string s,.string ⟨#[38]⟩] w fun e w'=>e=.returned (.int .i64 q)∧w=w':=by
 have H:=hI h
 cases hq:([38]==s.toList) with
 | true =>
  obtain rfl:(0:Int)=q:=by
   have e:s.data.toList=[38]:=by
    rw [beq_iff_eq,ByteArray.toList_eq] at hq;exact hq.symm
   rw [←h,e]
   rfl
  clear h
  go_enter func159,ntmps159
  go_wp2_with fail
  go_ret
  exact ⟨rfl,rfl⟩
 | false =>
  clear h
  go_enter func159,ntmps159
  go_wp2_with (first
   | (go_at_call 187;(with_reducible refine (zSi s q w H.out).mono ?_);rintro e w1 ⟨rfl,rfl⟩)
   | fail)
  go_ret
  exact ⟨rfl,rfl⟩
theorem zSS (s:ByteArray) (q:Int) (w:World) (h:Lib.indexByte s.data.toList 59=q) :
 Calls prog 187 #[.string s,.int .u8 ↑((⟨#[59]⟩:ByteArray)[0]'(by decide)).toNat] w fun e w'=>e=.returned (.int .i64 q)∧w=w':=by
 refine (Tryz.stringslite_IndexByte s _ w).mono fun e w' ⟨h1,h2⟩=>⟨?_,h2.symm⟩
 rw [h1,←h]
 rfl
theorem zJm (s:ByteArray) (q:Int) (w:World) (h:Lib.indexByte s.data.toList 59=q) :
 Calls prog 159 #[.string s,.string ⟨#[59]⟩] w fun e w'=>e=.returned (.int .i64 q)∧w=w':=by
 have H:=hI h
 cases hq:([59]==s.toList) with
 | true =>
  obtain rfl:(0:Int)=q:=by
   have e:s.data.toList=[59]:=by
    rw [beq_iff_eq,ByteArray.toList_eq] at hq;exact hq.symm
   rw [←h,e]
   rfl
  clear h
  go_enter func159,ntmps159
  go_wp2_with fail
  go_ret
  exact ⟨rfl,rfl⟩
 | false =>
  clear h
  go_enter func159,ntmps159
  go_wp2_with (first
   | (go_at_call 187;(with_reducible refine (zSS s q w H.out).mono ?_);rintro e w1 ⟨rfl,rfl⟩)
   | fail)
  go_ret
  exact ⟨rfl,rfl⟩
theorem zSX (s:ByteArray) (q:Int) (w:World) (h:Lib.indexByte s.data.toList 60=q) :
 Calls prog 187 #[.string s,.int .u8 ↑((⟨#[60]⟩:ByteArray)[0]'(by decide)).toNat] w fun e w'=>e=.returned (.int .i64 q)∧w=w':=by
 refine (Tryz.stringslite_IndexByte s _ w).mono fun e w' ⟨h1,h2⟩=>⟨?_,h2.symm⟩
 rw [h1,←h]
 rfl
theorem zO7 (s:ByteArray) (q:Int) (w:World) (h:Lib.indexByte s.data.toList 60=q) :
 Calls prog 159 #[.string s,.string ⟨#[60]⟩] w fun e w'=>e=.returned (.int .i64 q)∧w=w':=by
 have H:=hI h
 cases hq:([60]==s.toList) with
 | true =>
  obtain rfl:(0:Int)=q:=by
   have e:s.data.toList=[60]:=by
    rw [beq_iff_eq,ByteArray.toList_eq] at hq;exact hq.symm
   rw [←h,e]
   rfl
  clear h
  go_enter func159,ntmps159
  go_wp2_with fail
  go_ret
  exact ⟨rfl,rfl⟩
 | false =>
  clear h
  go_enter func159,ntmps159
  go_wp2_with (first
   | (go_at_call 187;(with_reducible refine (zSX s q w H.out).mono ?_);rintro e w1 ⟨rfl,rfl⟩)
   | fail)
  go_ret
  exact ⟨rfl,rfl⟩
theorem zJB (s:ByteArray) (w:World) (h:Lib.indexByte s.data.toList 38= -1) :
 Calls prog 116 #[.string s,.string ⟨#[38]⟩] w (zEP s ⟨#[]⟩ false w):=by
 have H:=hI h;clear h
 go_enter func116,ntmps116
 go_wp2_with (first
  | (go_at_call 159;(with_reducible refine (zKF s (-1) w H.out).mono ?_);rintro e w1 ⟨rfl,rfl⟩)
  | fail)
 go_ret3
 exact ⟨rfl,Below.refl _ _⟩
theorem zGv (s p r:ByteArray) (i j n:Nat) (w:World) (hm:s.size≤1000000) (h:Lib.indexByte s.data.toList 38=(i:Int)) (hi:i < s.size) (hj:i+1=j) (hn:s.size=n) (hp:s.extract 0 i=p) (hr:s.extract j n=r) :
 Calls prog 116 #[.string s,.string ⟨#[38]⟩] w (zEP p r true w):=by
 have H:=hI h;have b1:(0:Int)≤(i:Int)∧(i:Int)≤(s.size:Int):=by omega
 have b2:(0:Int)≤(j:Int)∧(j:Int)≤(s.size:Int):=by omega
 have s1:IntKind.i64.wrap ((i:Int)+1)=(j:Int):=by rw [IntWalk.i64_in _ (by omega)];omega
 have d1:decide ((0:Int)≤(i:Int))=true:=by simp
 rw [←hn] at hr;clear h hm hi hj hn
 go_enter func116,ntmps116
 go_wp2_with (first
  | (go_at_call 159;(with_reducible refine (zKF s (i:Int) w H.out).mono ?_);rintro e w1 ⟨rfl,rfl⟩)
  | fail)
 go_region
 go_wp2_with fail
 go_ret3
 exact ⟨rfl,(show Below w.heap.size w w.drew from ⟨rfl,rfl,rfl,Nat.le_refl _,fun _ _=>rfl⟩)⟩
theorem zLM (s:ByteArray) (w:World) (h:Lib.indexByte s.data.toList 38= -1) :
 Calls prog 82 #[.string s,.string ⟨#[38]⟩] w (zEP s ⟨#[]⟩ false w):=by
 have H:=hI h;clear h
 go_enter func82,ntmps82
 go_wp2_with (first
  | (go_at_call 116;(with_reducible refine (zJB s w H.out).mono ?_);rintro e w1 ⟨rfl,hb1⟩)
  | fail)
 go_ret3
 exact ⟨rfl,hb1⟩
theorem zKM (s p r:ByteArray) (i j n:Nat) (w:World) (hm:s.size≤1000000) (h:Lib.indexByte s.data.toList 38=(i:Int)) (hi:i < s.size) (hj:i+1=j) (hn:s.size=n) (hp:s.extract 0 i=p) (hr:s.extract j n=r) :
 Calls prog 82 #[.string s,.string ⟨#[38]⟩] w (zEP p r true w):=by
 have H:Hid (Calls prog 116 #[.string s,.string ⟨#[38]⟩] w (zEP p r true w)):=zGv s p r i j n w hm h hi hj hn hp hr;clear hm h hi hj hn hp hr
 go_enter func82,ntmps82
 go_wp2_with (first
  | (go_at_call 116;(with_reducible refine (H.out).mono ?_);rintro e w1 ⟨rfl,hb1⟩)
  | fail)
 go_ret3
 exact ⟨rfl,hb1⟩
theorem zIe (s:ByteArray) (w:World) (h:Lib.indexByte s.data.toList 59= -1) :
 Calls prog 116 #[.string s,.string ⟨#[59]⟩] w (zEP s ⟨#[]⟩ false w):=by
 have H:=hI h;clear h
 go_enter func116,ntmps116
 go_wp2_with (first
  | (go_at_call 159;(with_reducible refine (zJm s (-1) w H.out).mono ?_);rintro e w1 ⟨rfl,rfl⟩)
  | fail)
 go_ret3
 exact ⟨rfl,Below.refl _ _⟩
theorem zG5 (s p r:ByteArray) (i j n:Nat) (w:World) (hm:s.size≤1000000) (h:Lib.indexByte s.data.toList 59=(i:Int)) (hi:i < s.size) (hj:i+1=j) (hn:s.size=n) (hp:s.extract 0 i=p) (hr:s.extract j n=r) :
 Calls prog 116 #[.string s,.string ⟨#[59]⟩] w (zEP p r true w):=by
 have H:=hI h;have b1:(0:Int)≤(i:Int)∧(i:Int)≤(s.size:Int):=by omega
 have b2:(0:Int)≤(j:Int)∧(j:Int)≤(s.size:Int):=by omega
 have s1:IntKind.i64.wrap ((i:Int)+1)=(j:Int):=by rw [IntWalk.i64_in _ (by omega)];omega
 have d1:decide ((0:Int)≤(i:Int))=true:=by simp
 rw [←hn] at hr;clear h hm hi hj hn
 go_enter func116,ntmps116
 go_wp2_with (first
  | (go_at_call 159;(with_reducible refine (zJm s (i:Int) w H.out).mono ?_);rintro e w1 ⟨rfl,rfl⟩)
  | fail)
 go_region
 go_wp2_with fail
 go_ret3
 exact ⟨rfl,(show Below w.heap.size w w.drew from ⟨rfl,rfl,rfl,Nat.le_refl _,fun _ _=>rfl⟩)⟩
theorem zMT (s:ByteArray) (w:World) (h:Lib.indexByte s.data.toList 59= -1) :
 Calls prog 82 #[.string s,.string ⟨#[59]⟩] w (zEP s ⟨#[]⟩ false w):=by
 have H:=hI h;clear h
 go_enter func82,ntmps82
 go_wp2_with (first
  | (go_at_call 116;(with_reducible refine (zIe s w H.out).mono ?_);rintro e w1 ⟨rfl,hb1⟩)
  | fail)
 go_ret3
 exact ⟨rfl,hb1⟩
theorem zLG (s p r:ByteArray) (i j n:Nat) (w:World) (hm:s.size≤1000000) (h:Lib.indexByte s.data.toList 59=(i:Int)) (hi:i < s.size) (hj:i+1=j) (hn:s.size=n) (hp:s.extract 0 i=p) (hr:s.extract j n=r) :
 Calls prog 82 #[.string s,.string ⟨#[59]⟩] w (zEP p r true w):=by
 have H:Hid (Calls prog 116 #[.string s,.string ⟨#[59]⟩] w (zEP p r true w)):=zG5 s p r i j n w hm h hi hj hn hp hr;clear hm h hi hj hn hp hr
 go_enter func82,ntmps82
 go_wp2_with (first
  | (go_at_call 116;(with_reducible refine (H.out).mono ?_);rintro e w1 ⟨rfl,hb1⟩)
  | fail)
 go_ret3
 exact ⟨rfl,hb1⟩
theorem zLS (s:ByteArray) (q:Int) (w:World) (h:Lib.indexByte s.data.toList 60=q) :
 Calls prog 117 #[.string s,.string ⟨#[60]⟩] w fun e w'=>e=.returned (.int .i64 q)∧w=w':=by
 have H:=hI h;clear h
 go_enter func117,ntmps117
 go_wp2_with (first
  | (go_at_call 159;(with_reducible refine (zO7 s q w H.out).mono ?_);rintro e w1 ⟨rfl,rfl⟩)
  | fail)
 go_ret
 exact ⟨rfl,rfl⟩
theorem zPh (s:ByteArray) (b:Bool) (w:World) (h:decide ((60:UInt8)∈s.data.toList)=b) :
 Calls prog 85 #[.string s,.string ⟨#[60]⟩] w fun e w'=>e=.returned (.bool b)∧w=w':=by
 obtain ⟨q,hq⟩:∃q,Lib.indexByte s.data.toList 60=q:=⟨_,rfl⟩
 have hb:decide ((0:Int)≤q)=b:=by
  rw [←h];rcases zGU s.data.toList 60 with ⟨h1,h2⟩ | ⟨i,h1,h2,h3,h4⟩
  · have h0:¬(0:Int)≤q:=by omega
    rw [decide_eq_false h2,decide_eq_false h0]
  · have h0:(0:Int)≤q:=by omega
    have hin:(60:UInt8)∈s.data.toList:=by rw [h3];simp
    rw [decide_eq_true hin,decide_eq_true h0]
 have H:=hI hq;clear hq h
 go_enter func85,ntmps85
 go_wp2_with (first
  | (go_at_call 117;(with_reducible refine (zLS s q w H.out).mono ?_);rintro e w1 ⟨rfl,rfl⟩)
  | fail)
 go_ret
 exact ⟨rfl,rfl⟩
theorem zNd (w:World) (n:Int) (T:TypeId):RdZ (w.alloc (.cells #[.int .i64 n] T)) (w.alloc (.cells #[.int .i64 n] T)).heap.size (some ⟨w.heap.size,0,none⟩) [n]:=by
 intro _;refine ⟨w.heap.size,0,rfl,by simp,fun k hk=>?_⟩;have:k=0:=by simpa using hk
 subst this
 simp [encZ]
theorem ref8 (M G:Nat) (s t:ByteArray) (e:Int) (w:World) (hm:s.size≤1000000) (hr:Rdr M G w) (hE:Ev w) (h:refR s.data.toList=(t,e)) :
 Calls prog 228 #[RdV M G,.string s] w fun e' w'=>e'=.returned (.tuple #[.string t,.int .i64 e])∧Below w.heap.size w w':=by
 obtain ⟨a,b,hp⟩:∃a b,ptR s.data.toList=(a,b):=⟨_,_,rfl⟩;have HB:Hid (∀o,Below w.heap.size w (w.alloc o)):=hI fun o=>(Below.refl _ _).alloc (Nat.le_refl _) o
 have HEv:Hid (∀W,Below w.heap.size w W→Ev W):=hI fun W hW=>hE.to hW
 have HR:Hid (∀W,Below w.heap.size w W→Rdr M G W):=hI fun W hW=>hr.to hW
 have HM:=hI hm;rcases zMK _ a b hp with ⟨h0,h1⟩ | ⟨rfl,n,rfl,h1⟩
 · rw [h1] at h
   obtain ⟨rfl,rfl⟩:(⟨#[]⟩:ByteArray)=t∧(80:Int)=e:=by cases h;exact ⟨rfl,rfl⟩
   have HP:=hI hp;have d0:(b==0)=false:=by simpa using h0
   have d1:(b != 0)=true:=by simpa using h0
   clear h h1 hp hr hE hm;unfold RdV
   go_enter func228,ntmps228
   go_wp2_with (first
    | (go_at_call 247;refine (zMg M G s a b _ HM.out (HR.out _ (HB.out _)) (HEv.out _ (HB.out _)) HP.out).mono ?_;rintro e1 w1 ⟨rfl,hb1⟩)
    | fail)
   go_ret2
   exact ⟨rfl,zAj (HB.out _) hb1 (HB.out _).size⟩
 · rw [h1] at h
   have HP:=hI hp;have hL:=zQA n;unfold numA at h
   by_cases hmay:may (n:Int)=true
   · rw [if_pos hmay] at h hL
     rw [h] at hL;obtain ⟨-,rfl⟩:True∧(0:Int)=e:=by cases h;exact ⟨trivial,rfl⟩
     have HL:=hI hL;clear h h1 hp hr hE hm hL hmay;unfold RdV
     go_enter func228,ntmps228
     go_wp2_with (first
      | (go_at_call 247;refine (zMg M G s (n:Int) 0 _ HM.out (HR.out _ (HB.out _)) (HEv.out _ (HB.out _)) HP.out).mono ?_;rintro e1 w1 ⟨rfl,hb1⟩)
      | (go_at_call 248;refine (of5 (some ⟨w1.heap.size,0,none⟩) 1 1 [(n:Int)] _ (zNd w1 (n:Int) _) rfl (by decide) _ _ HL.out).mono ?_;rintro e2 w2 ⟨rfl,hb2⟩)
      | fail)
     go_ret2
     refine ⟨rfl,zAj ((zAj (HB.out _) hb1 (HB.out _).size).alloc ?_ _) hb2 ?_⟩
     · exact (zAj (HB.out _) hb1 (HB.out _).size).size
     · exact ((zAj (HB.out _) hb1 (HB.out _).size).alloc (zAj (HB.out _) hb1 (HB.out _).size).size _).size
   · rw [if_neg hmay] at h hL
     obtain ⟨rfl,rfl⟩:(⟨#[]⟩:ByteArray)=t∧(80:Int)=e:=by cases h;exact ⟨rfl,rfl⟩
     have HL:=hI hL;clear h h1 hp hr hE hm hL hmay;unfold RdV
     go_enter func228,ntmps228
     go_wp2_with (first
      | (go_at_call 247;refine (zMg M G s (n:Int) 0 _ HM.out (HR.out _ (HB.out _)) (HEv.out _ (HB.out _)) HP.out).mono ?_;rintro e1 w1 ⟨rfl,hb1⟩)
      | (go_at_call 248;refine (of5 (some ⟨w1.heap.size,0,none⟩) 1 1 [(n:Int)] _ (zNd w1 (n:Int) _) rfl (by decide) _ _ HL.out).mono ?_;rintro e2 w2 ⟨rfl,hb2⟩)
      | fail)
     go_ret2
     refine ⟨rfl,zAj ((zAj (HB.out _) hb1 (HB.out _).size).alloc ?_ _) hb2 ?_⟩
     · exact (zAj (HB.out _) hb1 (HB.out _).size).size
     · exact ((zAj (HB.out _) hb1 (HB.out _).size).alloc (zAj (HB.out _) hb1 (HB.out _).size).size _).size
end Hx
namespace Hx
def Bld (B b:Nat) (l:List UInt8) (w:World):Prop:=Lib.IsBuilderF 169 5 B b (Lib.byteCells l) w
theorem zDC (l:List UInt8):(Lib.byteCells l).length=l.length:=by simp [Lib.byteCells]
theorem zDx (a b:List UInt8):Lib.byteCells (a++b)=Lib.byteCells a++Lib.byteCells b:=by simp [Lib.byteCells]
theorem Bld.alloc {B b:Nat} {l:List UInt8} {w:World} (h:Bld B b l w) (o:Obj):Bld B b l (w.alloc o):=Lib.IsBuilderF.alloc h o
theorem Bld.lt {B b:Nat} {l:List UInt8} {w:World} (h:Bld B b l w):B≤b∧b < w.heap.size:=by
 rcases h with h | h <;>
 · obtain ⟨h1,v,h2,_⟩:=h
   refine ⟨h1,?_⟩;rcases Nat.lt_or_ge b w.heap.size with h' | h'
   · exact h'
   · rw [Array.getElem?_eq_none h'] at h2;cases h2
theorem zE9 {T e:TypeId} {B b:Nat} {p:Value} {bs:List Value} {w w':World} {n:Nat} (h:Lib.BuilderAtF T e B b p bs w) (hb:Below n w w') (hn:w.heap.size≤n):Lib.BuilderAtF T e B b p bs w':=by
 obtain ⟨h1,v,h2,h3,h4⟩:=h
 have hlt:∀{k:Nat} {o:Obj},w.heap[k]?=some o→w'.heap[k]?=some o:=fun {k o} hk=>by
  have:k < w.heap.size:=by
   rcases Nat.lt_or_ge k w.heap.size with h' | h'
   · exact h'
   · rw [Array.getElem?_eq_none h'] at hk;cases hk
  rw [hb.block k (Nat.lt_of_lt_of_le this hn)];exact hk
 refine ⟨h1,v,hlt h2,⟨h3.1,?_⟩,h4⟩;rcases h3.2 with h | ⟨g,cap,cur,fz,q1,q2,q3,q4⟩
 · exact .inl h
 · exact .inr ⟨g,cap,cur,fz,q1,q2,hlt q3,q4⟩
theorem Bld.below {B b:Nat} {l:List UInt8} {w w':World} (h:Bld B b l w) (hb:Below w.heap.size w w'):Bld B b l w' :=
 h.elim (fun x=>.inl (zE9 x hb (Nat.le_refl _))) (fun x=>.inr (zE9 x hb (Nat.le_refl _)))
theorem zIW (w:World):Bld w.heap.size w.heap.size [] (w.alloc (.cells #[.pointer none,.slice none 0 0] 169)):=Lib.IsBuilderF.of (Lib.fresh_isBuilder _ _ _)
theorem zNs:∃j,prog.info? 169=some j∧j.size=2:=Option.map_eq_some_iff.1 (show (prog.info? 169).map (·.size)=some 2 by kernel_rfl)
theorem zQJ:liesAt prog prog.depth 169 (2 / prog.cellsOf 169) 0 169 1=true:=by kernel_rfl
theorem zMG:(prog.info? 5).map (fun i=>(i.zero,i.size,i.bytes))=some (some (.int .u8 0),1,1):=by kernel_rfl
theorem zMp (b:Nat) (w:World) (h0:w.cell? ⟨b,0,none⟩=some (.pointer (some ⟨b,0,none⟩))) :
 Calls prog 197 #[.pointer (some ⟨b,0,none⟩)] w fun e w'=>e=.returned (.tuple #[])∧w'=w:=by
 obtain ⟨j,hj,_⟩:=zNs
 go_enter func197,ntmps197
 go_wp2
 rw [Lib.run_neq_ptr_same w _ underlying166 hj]
 go_wp2
 go_end0
 exact ⟨rfl,rfl⟩
theorem zKB (b:Nat) (w:World) (h0:w.cell? ⟨b,0,none⟩=some (.pointer none)) (hsh:w.shape? b=some (169,2)) (hfz:w.frozen? ⟨b,0,none⟩=false) :
 Calls prog 197 #[.pointer (some ⟨b,0,none⟩)] w fun e w'=>e=.returned (.tuple #[])∧w'=w.setCell ⟨b,0,none⟩ (.pointer (some ⟨b,0,none⟩)):=by
 obtain ⟨j,hj,hjs⟩:=zNs
 go_enter func197,ntmps197
 go_wp2
 rw [Lib.run_to_unsafe w ⟨b,0,none⟩ underlying166 underlying152 hj (by rw [hjs];decide) hsh (Nat.zero_lt_succ 1)];simp only [Result.andThen];rw [Oper.upon_value]
 go_wp2
 rw [run_callFunc_extern func219 (by kernel_rfl) (by kernel_rfl) (by kernel_rfl) (e:=Extern.AbiNoEscape.same) (by kernel_rfl)];rw [Lib.run_noEscape];simp only [Result.andThen];rw [Oper.upon_value]
 go_wp2
 rw [Lib.run_from_unsafe w ⟨b,0,none⟩ underlying152 underlying166 hj hsh zQJ];simp only [Result.andThen];rw [Oper.upon_value]
 go_wp2
 go_end0
 exact ⟨rfl,rfl⟩
theorem zPe (B b:Nat) (bs:List Value) (w:World) (h:Lib.IsBuilderF 169 5 B b bs w) :
 Calls prog 197 #[.pointer (some ⟨b,0,none⟩)] w fun e w'=>e=.returned (.tuple #[])∧Lib.BuilderAtF 169 5 B b (.pointer (some ⟨b,0,none⟩)) bs w'∧Below B w w':=by
 rcases h with h | h
 · refine (zKB b w h.cell0 h.shape h.frozen0).mono ?_
   rintro e w' ⟨rfl,rfl⟩;exact ⟨rfl,h.used _,(Below.refl B w).setCell (p:=⟨b,0,none⟩) h.1 _⟩
 · refine (zMp b w h.cell0).mono ?_
   rintro e w' ⟨rfl,rfl⟩;exact ⟨rfl,h,Below.refl B _⟩
theorem bwb (B b:Nat) (l:List UInt8) (c:UInt8) (w:World) (h:Bld B b l w) (hl:l.length+1≤1000000000) (hBw:B≤w.heap.size) :
 Calls prog 218 #[.pointer (some ⟨b,0,none⟩),.int .u8 (c.toNat:Int)] w fun e w'=>e=.returned .nilIface∧Bld B b (l++[c]) w'∧Below B w w':=by
 obtain ⟨i0,hi,hz0,hz1,hz2⟩:=info_parts zMG;obtain ⟨z,hz⟩:∃z:Int,(c.toNat:Int)=z:=⟨_,rfl⟩;obtain ⟨bs,hbs⟩:∃bs,Lib.byteCells l=bs:=⟨_,rfl⟩;have hbl:bs.length=l.length:=by rw [←hbs,zDC]
 have HE:Hid (Lib.byteCells (l++[c])=bs++[.int .u8 z]):=hI (by rw [zDx,hbs,←hz];rfl);have h':Lib.IsBuilderF 169 5 B b bs w:=hbs ▸ h;have hl':bs.length+1≤1000000000:=by omega
 rw [hz];clear h hz hbs hbl hl
 go_enter func218,ntmps218
 go_wp2_with (go_at_call 197;(with_reducible refine (zPe B b bs w h').mono ?_))
 rintro e w1 ⟨rfl,h1,hb1⟩;obtain ⟨hB,v,hbk,hown,hne⟩:=h1;have c0:w1.cell? ⟨b,0,none⟩=some (.pointer (some ⟨b,0,none⟩)):=by rw [Lib.cell_of_heap hbk];rfl
 have c1:w1.cell? ⟨b,1,none⟩=some v:=by rw [Lib.cell_of_heap hbk];rfl
 go_wp2_with (at_builtin;refine wpList_append_ownF _ rfl _ _ 167 rfl B 5 i0 (.int .u8 0) 1 1 underlying167 hi hz0 hz1 hz2 rfl (by decide) _ _ _ rfl (hown.alloc _) ⟨w1.heap.size,0,none⟩ 1 1 [.int .u8 z] rfl rfl ?c1 ?c2 ?c3 ?c4 ?c5 ?_)
 case c1 =>
  intro j u hj
  match j,hj with
  | 0,hj=>simp at hj;subst hj;simp [Addr.add]
 case c2=>intro u hu;simp at hu;subst hu;rfl
 case c3=>unfold maxLen;omega
 case c4=>omega
 case c5=>have:=hb1.size;simp;omega
 intro v' w2 hown' hgrow _
 have hlt:b < w1.heap.size:=by
  rcases Nat.lt_or_ge b w1.heap.size with h' | h'
  · exact h'
  · simp [Array.getElem?_eq_none h'] at hbk
 have hb2:w2.heap[b]?=some (.cells #[.pointer (some ⟨b,0,none⟩),v] 169 (0,0)):=by
  rw [hgrow.block b (by simp;omega) (fun e=>hne e.symm),Lib.alloc_old w1 _ b hlt];exact hbk
 have d0:w2.cell? ⟨b,0,none⟩=some (.pointer (some ⟨b,0,none⟩)):=by rw [Lib.cell_of_heap hb2];rfl
 have d1:w2.cell? ⟨b,1,none⟩=some v:=by rw [Lib.cell_of_heap hb2];rfl
 have f1:w2.frozen? ⟨b,1,none⟩=false:=Lib.frozen_of_heap hb2 1
 obtain ⟨g,cap,rfl⟩:∃g cap,v'=.slice (some ⟨g,0,none⟩) (bs.length+1) cap:=by
  rcases hown'.2 with ⟨_,h0⟩ | ⟨g,cap,cur,fz,hv,_⟩
  · omega
  · exact ⟨g,cap,hv⟩
 go_wp2
 go_ret
 refine ⟨rfl,?_,?_⟩
 · unfold Bld
   rw [HE.out];exact .inr (Lib.BuilderAtF.put (T:=169) (e:=5) hB hb2 (bs':=bs++[.int .u8 z]) (by simpa using hown') (by decide))
 · exact ((hb1.alloc (by have:=hb1.size;omega) _).grown hgrow (by have:=hb1.size;simp;omega) (fun k hk=>(hown.lt k hk).1)).setCell (p:=⟨b,1,none⟩) hB _
theorem bws (B b:Nat) (l:List UInt8) (x:ByteArray) (w:World) (h:Bld B b l w) (hl:l.length+x.size≤1000000000) (hBw:B≤w.heap.size) :
 Calls prog 171 #[.pointer (some ⟨b,0,none⟩),.string x] w fun e w'=>e=.returned (.tuple #[.int .i64 x.size,.nilIface])∧Bld B b (l++x.data.toList) w'∧Below B w w':=by
 obtain ⟨i0,hi,hz0,hz1,hz2⟩:=info_parts zMG;obtain ⟨bs,hbs⟩:∃bs,Lib.byteCells l=bs:=⟨_,rfl⟩;have hbl:bs.length=l.length:=by rw [←hbs,zDC]
 have HE:Hid (Lib.byteCells (l++x.data.toList)=bs++Lib.strCells x):=hI (by rw [zDx,hbs];rfl);have h':Lib.IsBuilderF 169 5 B b bs w:=hbs ▸ h;have hl':bs.length+x.size≤1000000000:=by omega
 clear h hbs hbl hl
 go_enter func171,ntmps171
 go_wp2_with (go_at_call 197;(with_reducible refine (zPe B b bs w h').mono ?_))
 rintro e w1 ⟨rfl,h1,hb1⟩;obtain ⟨hB,v,hbk,hown,hne⟩:=h1;have c0:w1.cell? ⟨b,0,none⟩=some (.pointer (some ⟨b,0,none⟩)):=by rw [Lib.cell_of_heap hbk];rfl
 have c1:w1.cell? ⟨b,1,none⟩=some v:=by rw [Lib.cell_of_heap hbk];rfl
 go_wp2_with (at_builtin;refine Lib.wpList_append_own_stringF _ rfl _ _ 167 9 rfl B 5 i0 underlying167 underlying9 hi hz0 hz1 hz2 _ _ _ rfl hown x rfl ?c3 ?c4 ?c5 ?_)
 case c3=>unfold maxLen;omega
 case c4=>omega
 case c5=>have:=hb1.size;omega
 intro v' w2 hown' hgrow _
 have hlt:b < w1.heap.size:=by
  rcases Nat.lt_or_ge b w1.heap.size with h' | h'
  · exact h'
  · simp [Array.getElem?_eq_none h'] at hbk
 have hb2:w2.heap[b]?=some (.cells #[.pointer (some ⟨b,0,none⟩),v] 169 (0,0)):=by
  rw [hgrow.block b hlt (fun e=>hne e.symm)];exact hbk
 have d0:w2.cell? ⟨b,0,none⟩=some (.pointer (some ⟨b,0,none⟩)):=by rw [Lib.cell_of_heap hb2];rfl
 have d1:w2.cell? ⟨b,1,none⟩=some v:=by rw [Lib.cell_of_heap hb2];rfl
 have f1:w2.frozen? ⟨b,1,none⟩=false:=Lib.frozen_of_heap hb2 1
 obtain ⟨ao,n',cap,rfl⟩:∃ao n' cap,v'=.slice ao n' cap:=by
  rcases hown'.2 with ⟨hv,_⟩ | ⟨g,cap,cur,fz,hv,_⟩
  · exact ⟨_,_,_,hv⟩
  · exact ⟨_,_,_,hv⟩
 go_wp2
 go_ret2
 refine ⟨rfl,?_,?_⟩
 · unfold Bld
   rw [HE.out];exact .inr (Lib.BuilderAtF.put (T:=169) (e:=5) hB hb2 (bs':=bs++Lib.strCells x) (by simpa [Lib.strCells_length] using hown') (by decide))
 · exact (hb1.grown hgrow (by have:=hb1.size;omega) (fun k hk=>(hown.lt k hk).1)).setCell (p:=⟨b,1,none⟩) hB _
theorem bln (B b:Nat) (x:ByteArray) (w:World) (h:Bld B b x.data.toList w) :
 Calls prog 140 #[.pointer (some ⟨b,0,none⟩)] w fun e w'=>e=.returned (.int .i64 (x.size:Int))∧w=w':=by
 refine (Tryz.Builder_Len_f B b _ w h).mono fun e w' ⟨h1,h2⟩=>⟨?_,h2.symm⟩
 rw [h1,zDC]
 rfl
theorem bst (B b:Nat) (x:ByteArray) (w:World) (h:Bld B b x.data.toList w) (hB:B≤w.heap.size) :
 Calls prog 141 #[.pointer (some ⟨b,0,none⟩)] w fun e w'=>e=.returned (.string x)∧Bld B b x.data.toList w'∧Below B w w' :=
 (Tryz.Builder_String_any_k B b _ w h hB).mono fun e w' ⟨h1,h2,h3,_⟩=>⟨h1,h2,h3⟩
end Hx
namespace Hx
open Tx Nmb Es
theorem zM9 {s t:ByteArray} {q:Bool} {e:Int} (h:putR s q=(t,e)):e=0∨e=4∨e=50:=by
 unfold putR at h;rcases zJc s with k | k | k
 · rw [if_neg (by simpa using k)] at h
   split at h <;> cases h
   · exact .inr (.inl rfl)
   · exact .inl rfl
 · rw [if_pos (by rw [k];decide),k] at h;cases h;exact .inr (.inl rfl)
 · rw [if_pos (by rw [k];decide),k] at h;cases h;exact .inr (.inr rfl)
theorem put8 (s t:ByteArray) (q:Bool) (e:Int) (w:World) (hm:s.size≤1000000) (h:putR s q=(t,e)) :
 Calls prog 196 #[.string s,.bool q] w fun e' w'=>e'=.returned (.tuple #[.string t,.int .i64 e])∧Below w.heap.size w w':=by
 have HM:=hI hm;unfold putR at h
 by_cases h0:chkE s=0
 · rw [if_neg (by simpa using h0)] at h
   obtain ⟨x,hx⟩:∃x,escS q s=x:=⟨_,rfl⟩;rw [hx] at h;have HX:=hI hx;have HH:=hI h;have HC:=hI h0;have hxm:x.size≤6000000:=by rw [←hx];have:=(zMd q s).2;omega
   have HXM:=hI hxm;clear hm h hx h0 hxm
   go_enter func196,ntmps196
   go_wp2_with (first
    | (go_at_call 47;(with_reducible refine (zCb s w HM.out 0 HC.out).mono ?_);rintro e1 w1 ⟨rfl,hb1⟩)
    | (go_at_call 217;(with_reducible refine (zRY w1).mono ?_);rintro e2 w2 ⟨rfl,hw2⟩;have HMp:Hid (w2.heap[w1.heap.size]?=some (.map SG 7)):=hI (by rw [hw2];exact heap_alloc_new w1 _);have HB2:Hid (Below w.heap.size w w2):=hI (by rw [hw2];exact hb1.alloc hb1.size _);have HLt:Hid (w1.heap.size < w2.heap.size):=hI (by rw [hw2];simp);clear hw2)
    | fail)
   go_loopg [9,10,11,20] s.size (fun gg x9 x10 x11 i wr=>∃k:Nat,k+gg=s.size∧i=.int .i64 k∧Bld w2.heap.size w2.heap.size (escL q (s.data.toList.take k)) wr∧Below w2.heap.size w2 wr)
   case atStart=>exact ⟨0,by omega,rfl,zIW w2,(Below.refl _ _).alloc (Nat.le_refl _) _⟩
   case round =>
    obtain ⟨k,hk,rfl,hbl,hbw⟩:=hrel;have hMM:=HM.out;have hsz:=hbw.size;have HBL:=hI hbl;have HBW:=hI hbw
    by_cases hlt:k < s.size
    · obtain ⟨c,hc,hat⟩:=zJz s k hlt
      have bk:(0:Int)≤(k:Int)∧(k:Int) < (s.size:Int):=by omega
      obtain ⟨rf,qd,iss,hsg⟩:∃rf qd iss,sgT c=(rf,qd,iss):=⟨_,_,_,rfl⟩
      have HE:Hid (escL q (s.data.toList.take (k+1))=escL q (s.data.toList.take k)++if iss&&(q|| !qd) then rf.data.toList else [c]):=by
       show _=_;rw [zDB hc,zMx,zOX,hsg]
      have HRF:Hid (rf.size≤6):=by
       show _≤_;have h1:(sgT c).1.size≤6:=zA4 (fun c=>(sgT c).1.size≤6) (by decide +kernel) c;rw [hsg] at h1;exact h1
      have HLen:Hid ((escL q (s.data.toList.take k)).length≤6000000):=by
       show _≤_;have:=(zCn q (s.data.toList.take k)).2;rw [List.length_take] at this
       omega
      have HLk:Hid (∀W,Below w2.heap.size w2 W→(Instr.lookup 238 (.map (some w1.heap.size)) (.int .u8 (c.toNat:Int)) true).run prog W=.ok (.tuple #[.agg #[.string rf,.bool qd],.bool iss]) W):=by
       intro W hW;rw [zSU c W _ (zI5 HMp.out hW HLt.out),hsg]
      clear hbl hbw hc hsg
      cases iss <;> cases q <;> cases qd
      all_goals
       go_wp2_with (first
        | (refine zCB rfl _ _ _ rfl rfl rfl (HLk.out _ HBW.out) ?_)
        | (go_at_call 218;refine (bwb w2.heap.size w2.heap.size _ c _ (HBL.out.alloc _) (by have:=HLen.out;omega) (by simp;omega)).mono ?_;rintro e4 w4 ⟨rfl,hbl4,hb4⟩;have HBL4:=hI hbl4;have HB4:=hI hb4;clear hbl4 hb4)
        | (go_at_call 171;refine (bws w2.heap.size w2.heap.size _ rf _ (HBL.out.alloc _) (by have:=HLen.out;have:=HRF.out;omega) (by simp;omega)).mono ?_;rintro e4 w4 ⟨rfl,hbl4,hb4⟩;have HBL4:=hI hbl4;have HB4:=hI hb4;clear hbl4 hb4)
        | fail)
       go_roundg (gk - 1)
       case rel =>
        refine ⟨k+1,by omega,by go_num,?_,?_⟩
        · rw [HE.out]
          exact HBL4.out
        · exact (HBW.out.alloc hsz _).trans HB4.out
       case measure=>omega
    · obtain rfl:s.size=k:=by omega
      have htk:s.data.toList.take s.size=s.data.toList:=List.take_of_length_le (by rw [zAV];exact Nat.le_refl _)
      have hbl2:Bld w2.heap.size w2.heap.size x.data.toList wr:=by
       have e2:escL q (s.data.toList.take s.size)=x.data.toList:=by rw [htk,←HX.out];rfl
       rw [←e2];exact hbl
      have HBL2:=hI hbl2;clear hbl hbw htk hbl2 HBL;have hXM:=HXM.out;have hB:Below w.heap.size w wr:=zAj HB2.out HBW.out HB2.out.size
      by_cases h16:16384 < x.size
      · have hh:=HH.out
        rw [if_pos h16] at hh;obtain ⟨rfl,rfl⟩:(⟨#[]⟩:ByteArray)=t∧(4:Int)=e:=by cases hh;exact ⟨rfl,rfl⟩
        have d0:decide ((16384:Int) < (x.size:Int))=true:=by simp;omega
        clear hh HH h16
        go_wp2_with (first
         | (go_at_call 140;refine (bln w2.heap.size w2.heap.size x wr HBL2.out).mono ?_;rintro e4 w4 ⟨rfl,rfl⟩)
         | fail)
        go_ret2
        exact ⟨rfl,hB⟩
      · have hh:=HH.out
        rw [if_neg h16] at hh;obtain ⟨rfl,rfl⟩:x=t∧(0:Int)=e:=by cases hh;exact ⟨rfl,rfl⟩
        have d0:decide ((16384:Int) < (x.size:Int))=false:=by simp;omega
        clear hh HH h16
        go_wp2_with (first
         | (go_at_call 140;refine (bln w2.heap.size w2.heap.size x wr HBL2.out).mono ?_;rintro e4 w4 ⟨rfl,rfl⟩)
         | (go_at_call 141;refine (bst w2.heap.size w2.heap.size x wr HBL2.out hsz).mono ?_;rintro e5 w5 ⟨rfl,hbl5,hb5⟩)
         | fail)
        go_ret2
        exact ⟨rfl,zAj hB hb5 HB2.out.size⟩
 · rw [if_pos h0] at h
   obtain ⟨rfl,he⟩:(⟨#[]⟩:ByteArray)=t∧chkE s=e:=by cases h;exact ⟨rfl,rfl⟩
   have q0:(e==0)=false:=by rw [←he];simpa using h0
   have q1:(e != 0)=true:=by rw [←he];simpa using h0
   have HC:=hI he;clear h h0 hm he
   go_enter func196,ntmps196
   go_wp2_with (first
    | (go_at_call 47;(with_reducible refine (zCb s w HM.out e HC.out).mono ?_);rintro e1 w1 ⟨rfl,hb1⟩)
    | fail)
   go_ret2
   exact ⟨rfl,hb1⟩
theorem zM2 (p:List UInt8) (h:∀x∈p,x≠60∧x≠38):rd p=some p:=by
 induction p with
 | nil=>rfl
 | cons c p ih =>
  have hc:=h c (by simp);rw [zDO c p hc.1 hc.2,ih (fun x hx=>h x (by simp [hx]))]
  rfl
theorem zPB (p r:List UInt8) (h:∀x∈p,x≠60∧x≠38):rd (p++r)=(rd r).map (p++·):=zHF p r p (zM2 p h)
theorem zQu (n:Nat):(60:UInt8)∉dg n:=zRj n 60 (by decide)
theorem zNN {l:List UInt8} {n:Nat} (h:hexV l=some n):(60:UInt8)∉l:=by
 intro hm;obtain ⟨k,hk⟩:=List.mem_iff_getElem?.1 hm;have h0:hxv 60=none:=by decide
 unfold hexV at h
 split at h
 · cases h
 · rw [zEu hk h0] at h;cases h
theorem zLO {l:List UInt8} {n:Nat} (h:numL l=some n):(60:UInt8)∉l:=by
 by_cases hd:l.head?=some 120
 · cases l with
   | nil=>cases hd
   | cons c r =>
    cases hd
    rw [zRU] at h;rw [Option.filter_eq_some_iff] at h;intro hm;rcases List.mem_cons.1 hm with e | e
    · cases e
    · exact zNN h.1 e
 · rw [zPg hd,Option.filter_eq_some_iff] at h
   rw [((zLT l n).1 h.1).1];exact zQu n
theorem zJC {l y:List UInt8} (h:zBc l=some y):(60:UInt8)∉l:=by
 unfold zBc at h
 split at h
 · rename_i e;subst e;decide
 split at h
 · rename_i e;subst e;decide
 split at h
 · rename_i e;subst e;decide
 split at h
 · rename_i e;subst e;decide
 split at h
 · rename_i e;subst e;decide
 split at h
 · rename_i r _ _ _ _ _
   rw [Option.map_eq_some_iff] at h;obtain ⟨n,hn,_⟩:=h;intro hm;rcases List.mem_cons.1 hm with e | e
   · cases e
   · exact zLO hn e
 · cases h
theorem zQo:∀(n:Nat) (l:List UInt8),l.length≤n→(60:UInt8)∈l→rd l=none
 | _,[],_,h=>by simp at h
 | 0,c::l,hn,_=>by simp at hn
 | n+1,c::l,hn,h=>by
  simp only [List.length_cons] at hn
  by_cases h60:c=60
  · rw [h60];exact zJ4 l
  · have hl:(60:UInt8)∈l:=(List.mem_cons.1 h).resolve_left (fun e=>h60 e.symm)
    by_cases h38:c=38
    · subst h38
      rw [zFK]
      cases hs:semi l with
      | none=>rfl
      | some p =>
       obtain ⟨x,t⟩:=p;obtain ⟨e,hx⟩:=zCJ l x t hs;simp only
       cases hm:zBc x with
       | none=>rfl
       | some y =>
        simp only
        have ht:(60:UInt8)∈t:=by
         rw [e] at hl;rcases List.mem_append.1 hl with q | q
         · exact absurd q (zJC hm)
         · rcases List.mem_cons.1 q with q | q
           · cases q
           · exact q
        have hlen:=congrArg List.length e;simp only [List.length_append,List.length_cons] at hlen;rw [zQo n t (by omega) ht]
        rfl
    · rw [zDO c l h60 h38,zQo n l (by omega) hl]
      rfl
def repR (l:List UInt8):ByteArray × Int:=match rd l with | some y=>(⟨y.toArray⟩,0) | none=>(⟨#[]⟩,80)
theorem zJ3 (s:ByteArray) (i:Nat):(s.extract 0 i).data.toList=s.data.toList.take i:=by rw [zEG];simp
theorem zJh (s:ByteArray) (j:Nat):(s.extract j s.size).data.toList=s.data.toList.drop j:=by
 rw [zEG];show (s.data.toList.drop j).take (s.size - j)=_;exact List.take_of_length_le (by rw [List.length_drop,zAV];exact Nat.le_refl _)
theorem zEi {l:List UInt8} (h:rd l=none):repR l=(⟨#[]⟩,80):=by unfold repR;rw [h]
theorem zNh {l y:List UInt8} (h:rd l=some y):repR l=(⟨y.toArray⟩,0):=by unfold repR;rw [h]
theorem zNV {l:List UInt8} {t:ByteArray} {e:Int} (h:refR l=(t,e)):(e=0∧zBc l=some t.data.toList)∨(e=80∧zBc l=none):=by
 unfold refR at h
 cases hm:zBc l with
 | none=>rw [hm] at h;cases h;exact .inr ⟨rfl,rfl⟩
 | some y=>rw [hm] at h;cases h;exact .inl ⟨rfl,rfl⟩
theorem rep8 (M G:Nat) (s t:ByteArray) (e:Int) (w:World) (hm:s.size≤1000000) (h60:(60:UInt8)∉s.data.toList) (hr:Rdr M G w) (hE:Ev w) (h:repR s.data.toList=(t,e)) :
 Calls prog 226 #[.string s,.func (.func 228) #[RdV M G] #[]] w fun e' w'=>e'=.returned (.tuple #[.string t,.int .i64 e])∧Below w.heap.size w w':=by
 have HEv:Hid (∀W,Below w.heap.size w W→Ev W):=hI fun W hW=>hE.to hW
 have HR:Hid (∀W,Below w.heap.size w W→Rdr M G W):=hI fun W hW=>hr.to hW
 have HH:=hI h;have H60:=hI h60;have HSM:=hI hm;clear hr hE h h60 hm;unfold RdV
 go_enter func226,ntmps226
 go_wp2_with fail
 go_loopg [0,7,8,9,10,11,12,13,14] s.size (fun gg vs v7 v8 v9 v10 v11 v12 v13 v14 wr=>∃(x:ByteArray) (l:List UInt8),vs=.string x∧gg=x.size∧Hid (rd s.data.toList=(rd x.data.toList).map (l++·))∧l.length+4*x.size≤4000000∧x.size≤1000000∧Hid ((60:UInt8)∉x.data.toList)∧Bld w.heap.size w.heap.size l wr∧Below w.heap.size w wr)
 case atStart=>exact ⟨s,[],rfl,rfl,hI (by cases rd s.data.toList <;> simp),by have:=HSM.out;simp;omega,HSM.out,H60,zIW w,(Below.refl _ _).alloc (Nat.le_refl _) _⟩
 case round =>
  obtain ⟨x,l,rfl,rfl,hrd,hlen,hxm,hx60,hbl,hbw⟩:=hrel;have HBL:=hI hbl;have HBW:=hI hbw;have HL:=hI hlen;have HXM:=hI hxm;have hsz:=hbw.size;have hxl:x.data.toList.length=x.size:=zAV x;clear hbl hbw;rcases zGU x.data.toList 38 with ⟨hi,hno⟩ | ⟨i,hi,hil,hsp,hno⟩
  · -- no reference any more
    have hself:rd x.data.toList=some x.data.toList:=zM2 _ (fun c hc=>⟨fun q=>hx60.out (q ▸ hc),fun q=>hno (q ▸ hc)⟩);have hall:rd s.data.toList=some (l++x.data.toList):=by rw [hrd.out,hself];rfl
    obtain ⟨y,hy⟩:∃y:ByteArray,(⟨(l++x.data.toList).toArray⟩:ByteArray)=y:=⟨_,rfl⟩;have hyl:y.data.toList=l++x.data.toList:=by rw [←hy]
    have hh:=HH.out;rw [zNh hall,hy] at hh;obtain ⟨rfl,rfl⟩:y=t∧(0:Int)=e:=by cases hh;exact ⟨rfl,rfl⟩
    have HI:=hI hi;have HYL:=hI hyl;clear hi hno hself hall hy hyl hh hlen hxl hxm HH
    go_wp2_with (first
     | (go_at_call 82;(with_reducible refine (zLM x wr HI.out).mono ?_);rintro e1 w1 ⟨rfl,hb1⟩;have HB1:=hI hb1;have HBL1:Hid (Bld w.heap.size w.heap.size l w1):=hI (HBL.out.below hb1);clear hb1)
     | (go_at_call 171;(with_reducible refine (bws w.heap.size w.heap.size l x w1 HBL1.out (by have:=HL.out;omega) (zAj HBW.out HB1.out hsz).size).mono ?_);rintro e2 w2 ⟨rfl,hbl2,hb2⟩;have HB2:=hI hb2;have HBL2:Hid (Bld w.heap.size w.heap.size y.data.toList w2):=hI (by rw [HYL.out];exact hbl2);clear hb2 hbl2)
     | (go_at_call 141;(with_reducible refine (bst w.heap.size w.heap.size y w2 HBL2.out (zAj (zAj HBW.out HB1.out hsz) HB2.out (Nat.le_refl _)).size).mono ?_);rintro e3 w3 ⟨rfl,hbl3,hb3⟩)
     | fail)
    go_ret2
    exact ⟨rfl,zAj (zAj (zAj HBW.out HB1.out hsz) HB2.out (Nat.le_refl _)) hb3 (Nat.le_refl _)⟩
  · obtain ⟨p,hp⟩:∃p,x.extract 0 i=p:=⟨_,rfl⟩
    obtain ⟨bh,hbh⟩:∃bh,x.extract (i+1) x.size=bh:=⟨_,rfl⟩;have hpl:p.data.toList=x.data.toList.take i:=by rw [←hp];exact zJ3 _ _
    have hbl':bh.data.toList=x.data.toList.drop (i+1):=by rw [←hbh];exact zJh _ _
    have hps:p.size+bh.size+1=x.size:=by
     rw [←zAV p,←zAV bh,hpl,hbl',List.length_take,List.length_drop]
     omega
    have hdec:rd x.data.toList=(rd (38::bh.data.toList)).map (p.data.toList++·):=by
     conv=>lhs;rw [hsp]
     rw [←hbl',←hpl];refine zPB _ _ fun c hc=>⟨fun q=>hx60.out ?_,fun q=>hno ?_⟩
     · rw [hpl] at hc;rw [←q];exact List.mem_of_mem_take hc
     · rw [hpl] at hc;rw [←q];exact hc
    have hb60:(60:UInt8)∉bh.data.toList:=fun q=>hx60.out (by rw [hbl'] at q;exact List.mem_of_mem_drop q)
    have CU:Hid (Calls prog 82 #[.string x,.string ⟨#[38]⟩] wr (zEP p bh true wr)):=zKM x p bh i (i+1) x.size wr hxm hi (by omega) rfl rfl hp hbh;clear hi hno hp hbh hpl hbl' hsp hil hxl;rcases zGU bh.data.toList 59 with ⟨hj,hno2⟩ | ⟨j,hj,hjl,hsp2,hno2⟩
    · -- no semicolon
      have hall:rd s.data.toList=none:=by rw [hrd.out,hdec,zFK,zM3 _ hno2];rfl
      have hh:=HH.out;rw [zEi hall] at hh;obtain ⟨rfl,rfl⟩:(⟨#[]⟩:ByteArray)=t∧(80:Int)=e:=by cases hh;exact ⟨rfl,rfl⟩
      have HJ:=hI hj;clear hj hno2 hall hh HH hdec hb60
      go_wp2_with (first
       | (go_at_call 82;(with_reducible refine (CU.out).mono ?_);rintro e1 w1 ⟨rfl,hb1⟩;have HB1:=hI hb1;have HBL1:Hid (Bld w.heap.size w.heap.size l w1):=hI (HBL.out.below hb1);clear hb1)
       | (go_at_call 171;(with_reducible refine (bws w.heap.size w.heap.size l p w1 HBL1.out (by have:=HL.out;omega) (zAj HBW.out HB1.out hsz).size).mono ?_);rintro e2 w2 ⟨rfl,hbl2,hb2⟩;have HB2:=hI hb2;clear hb2 hbl2)
       | (go_at_call 82;(with_reducible refine (zMT bh w2 HJ.out).mono ?_);rintro e3 w3 ⟨rfl,hb3⟩;have HB3:=hI hb3;clear hb3)
       | fail)
      go_ret2
      exact ⟨rfl,zAj (zAj (zAj HBW.out HB1.out hsz) HB2.out (Nat.le_refl _)) HB3.out (zAj (zAj HBW.out HB1.out hsz) HB2.out (Nat.le_refl _)).size⟩
    · obtain ⟨nm,hnm⟩:∃nm,bh.extract 0 j=nm:=⟨_,rfl⟩
      obtain ⟨rs,hrs⟩:∃rs,bh.extract (j+1) bh.size=rs:=⟨_,rfl⟩;have hnl:nm.data.toList=bh.data.toList.take j:=by rw [←hnm];exact zJ3 _ _
      have hrl:rs.data.toList=bh.data.toList.drop (j+1):=by rw [←hrs];exact zJh _ _
      have hbs:=zAV bh
      have hns:nm.size+rs.size+1=bh.size:=by
       rw [←zAV nm,←zAV rs,hnl,hrl,List.length_take,List.length_drop]
       omega
      have hsem:semi bh.data.toList=some (nm.data.toList,rs.data.toList):=by
       rw [hnl,hrl]
       conv=>lhs;rw [hsp2]
       exact zMj _ _ hno2
      have hr60:(60:UInt8)∉rs.data.toList:=fun q=>hb60 (by rw [hrl] at q;exact List.mem_of_mem_drop q)
      have CV:Hid (∀W,Calls prog 82 #[.string bh,.string ⟨#[59]⟩] W (zEP nm rs true W)):=fun W=>zLG bh nm rs j (j+1) bh.size W (by omega) hj (by omega) rfl rfl hnm hrs
      obtain ⟨tp,er,hre⟩:∃tp er,refR nm.data.toList=(tp,er):=⟨_,_,rfl⟩;have HRE:=hI hre;have HNM:Hid (nm.size≤1000000):=hI (by omega);have CRF:Hid (∀W,Below w.heap.size w W→Calls prog 228 #[.agg #[.map (some M),.slice (some ⟨G,0,none⟩) 2 2],.string nm] W fun e' w'=>e'=.returned (.tuple #[.string tp,.int .i64 er])∧Below W.heap.size W w'):=hI fun W hW=>ref8 M G nm tp er W HNM.out (HR.out _ hW) (HEv.out _ hW) hre
      clear hj hno2 hnm hrs hnl hrl hsp2 hjl hb60 hbs;rcases zNV hre with ⟨rfl,hme⟩ | ⟨rfl,hme⟩
      · -- the reference is one
        have hrd2:Hid (rd s.data.toList=(rd rs.data.toList).map ((l++p.data.toList++tp.data.toList)++·)):=by
         show _=_;rw [hrd.out,hdec,zFK,hsem];simp only [hme,Option.map_map]
         cases rd rs.data.toList with
         | none=>rfl
         | some y=>simp
        have hty:=zKa hme;have htp:tp.size≤4:=by rw [←zAV tp];exact hty
        have HTP:=hI htp;have HR60:=hI hr60;have hLL:=HL.out;have HPS:=hI hps;have HNS:=hI hns;clear hme hre hsem hdec hty hr60
        go_wp2_with (first
         | (go_at_call 82;(with_reducible refine (CU.out).mono ?_);rintro e1 w1 ⟨rfl,hb1⟩;have HB1:=hI hb1;have HBL1:Hid (Bld w.heap.size w.heap.size l w1):=hI (HBL.out.below hb1);clear hb1)
         | (go_at_call 171;(with_reducible refine (bws w.heap.size w.heap.size l p w1 HBL1.out (by have:=HL.out;omega) (zAj HBW.out HB1.out hsz).size).mono ?_);rintro e2 w2 ⟨rfl,hbl2,hb2⟩;have HB2:Hid (Below w.heap.size w w2):=hI (zAj (zAj HBW.out HB1.out hsz) hb2 (Nat.le_refl _));have HBL2:=hI hbl2;clear hb2 hbl2)
         | (go_at_call 82;(with_reducible refine (CV.out w2).mono ?_);rintro e3 w3 ⟨rfl,hb3⟩;have HB3:Hid (Below w.heap.size w w3):=hI (zAj HB2.out hb3 HB2.out.size);have HBL3:Hid (Bld w.heap.size w.heap.size (l++p.data.toList) w3):=hI (HBL2.out.below hb3);clear hb3)
         | (go_at_call 228;(with_reducible refine (CRF.out w3 HB3.out).mono ?_);rintro e4 w4 ⟨rfl,hb4⟩;have HB4:Hid (Below w.heap.size w w4):=hI (zAj HB3.out hb4 HB3.out.size);have HBL4:Hid (Bld w.heap.size w.heap.size (l++p.data.toList) w4):=hI (HBL3.out.below hb4);clear hb4)
         | (go_at_call 171;(with_reducible refine (bws w.heap.size w.heap.size (l++p.data.toList) tp w4 HBL4.out (by rw [List.length_append,zAV];omega) HB4.out.size).mono ?_);rintro e5 w5 ⟨rfl,hbl5,hb5⟩;have HB5:Hid (Below w.heap.size w w5):=hI (zAj HB4.out hb5 (Nat.le_refl _));have HBL5:=hI hbl5;clear hb5 hbl5)
         | fail)
        go_roundg rs.size
        case rel =>
         refine ⟨rs,l++p.data.toList++tp.data.toList,rfl,rfl,hrd2,?_,by omega,HR60,HBL5.out,HB5.out⟩;rw [List.length_append,List.length_append,zAV,zAV]
         omega
        case measure=>omega
      · -- it is none
        have hall:rd s.data.toList=none:=by
         rw [hrd.out,hdec,zFK,hsem];simp only [hme]
         rfl
        have hh:=HH.out;rw [zEi hall] at hh;obtain ⟨rfl,rfl⟩:(⟨#[]⟩:ByteArray)=t∧(80:Int)=e:=by cases hh;exact ⟨rfl,rfl⟩
        have hLL:=HL.out;clear hme hre hsem hdec hall hh HH hr60
        go_wp2_with (first
         | (go_at_call 82;(with_reducible refine (CU.out).mono ?_);rintro e1 w1 ⟨rfl,hb1⟩;have HB1:=hI hb1;have HBL1:Hid (Bld w.heap.size w.heap.size l w1):=hI (HBL.out.below hb1);clear hb1)
         | (go_at_call 171;(with_reducible refine (bws w.heap.size w.heap.size l p w1 HBL1.out (by have:=HL.out;omega) (zAj HBW.out HB1.out hsz).size).mono ?_);rintro e2 w2 ⟨rfl,hbl2,hb2⟩;have HB2:Hid (Below w.heap.size w w2):=hI (zAj (zAj HBW.out HB1.out hsz) hb2 (Nat.le_refl _));clear hb2 hbl2)
         | (go_at_call 82;(with_reducible refine (CV.out w2).mono ?_);rintro e3 w3 ⟨rfl,hb3⟩;have HB3:Hid (Below w.heap.size w w3):=hI (zAj HB2.out hb3 HB2.out.size);clear hb3)
         | (go_at_call 228;(with_reducible refine (CRF.out w3 HB3.out).mono ?_);rintro e4 w4 ⟨rfl,hb4⟩;have HB4:Hid (Below w.heap.size w w4):=hI (zAj HB3.out hb4 HB3.out.size);clear hb4)
         | fail)
        go_ret2
        exact ⟨rfl,HB4.out⟩
theorem get8 (s t:ByteArray) (e:Int) (w:World) (hm:s.size≤1000000) (h:getR s=(t,e)) (hE:Ev w:=by first | assumption | exact Ev.to (by assumption) (by assumption)) :
 Calls prog 204 #[.string s] w fun e' w'=>e'=.returned (.tuple #[.string t,.int .i64 e])∧Below w.heap.size w w':=by
 have hmf:∀(fn:Fn) (first cap:Array Value) (w:World),(Instr.makeFunc fn first cap).run prog w=.ok (.func fn first cap) w:=fun _ _ _ _=>rfl
 have HM:=hI hm;have HE:=hI hE;unfold getR at h
 by_cases h0:chkE s=0
 · rw [if_neg (by simpa using h0)] at h
   have HC:=hI h0;have hrep:repR s.data.toList=(t,e):=h
   by_cases h60:(60:UInt8)∈s.data.toList
   · rw [zEi (zQo _ _ (Nat.le_refl _) h60)] at hrep
     obtain ⟨rfl,rfl⟩:(⟨#[]⟩:ByteArray)=t∧(80:Int)=e:=by cases hrep;exact ⟨rfl,rfl⟩
     have H6:Hid (decide ((60:UInt8)∈s.data.toList)=true):=hI (decide_eq_true h60);clear h h0 hrep h60 hm hE
     go_enter func204,ntmps204
     go_wp2_with (first
      | (go_at_call 47;(with_reducible refine (zCb s w HM.out 0 HC.out).mono ?_);rintro e1 w1 ⟨rfl,hb1⟩)
      | (go_at_call 85;(with_reducible refine (zPh s true w1 H6.out).mono ?_);rintro e2 w2 ⟨rfl,rfl⟩)
      | fail)
     go_ret2
     exact ⟨rfl,hb1⟩
   · have H6:Hid (decide ((60:UInt8)∈s.data.toList)=false):=hI (decide_eq_false h60)
     have CR:Hid (∀M G W,Rdr M G W→Ev W→Calls prog 226 #[.string s,.func (.func 228) #[RdV M G] #[]] W fun e' w'=>e'=.returned (.tuple #[.string t,.int .i64 e])∧Below W.heap.size W w'):=hI fun M G W h1 h2=>rep8 M G s t e W hm h60 h1 h2 hrep
     have hw:IntKind.i64.wrap e=e:=by
      have:e=0∨e=80:=by
       unfold repR at hrep
       split at hrep <;> cases hrep
       · exact .inl rfl
       · exact .inr rfl
      rcases this with rfl | rfl <;> rfl
     clear h h0 hrep h60 hm hE
     go_enter func204,ntmps204
     go_wp2_with (first
      | (go_at_call 47;(with_reducible refine (zCb s w HM.out 0 HC.out).mono ?_);rintro e1 w1 ⟨rfl,hb1⟩)
      | (go_at_call 85;(with_reducible refine (zPh s false w1 H6.out).mono ?_);rintro e2 w2 ⟨rfl,rfl⟩)
      | (go_at_call 227;(with_reducible refine (zQ5 w1).mono ?_);rintro e3 w3 ⟨M,G,rfl,hrd3,hb3⟩;have HRD:=hI hrd3;have HB3:Hid (Below w.heap.size w w3):=hI (zAj hb1 hb3 hb1.size);clear hrd3 hb3)
      | (go_at_call 226;(with_reducible refine (CR.out M G w3 HRD.out (HE.out.to HB3.out)).mono ?_);rintro e4 w4 ⟨rfl,hb4⟩)
      | fail)
     go_ret2
     exact ⟨rfl,zAj HB3.out hb4 HB3.out.size⟩
 · rw [if_pos h0] at h
   obtain ⟨rfl,he⟩:(⟨#[]⟩:ByteArray)=t∧chkE s=e:=by cases h;exact ⟨rfl,rfl⟩
   have q0:(e==0)=false:=by rw [←he];simpa using h0
   have q1:(e != 0)=true:=by rw [←he];simpa using h0
   have HC:=hI he;clear h h0 hm he hE
   go_enter func204,ntmps204
   go_wp2_with (first
    | (go_at_call 47;(with_reducible refine (zCb s w HM.out e HC.out).mono ?_);rintro e1 w1 ⟨rfl,hb1⟩)
    | fail)
   go_ret2
   exact ⟨rfl,hb1⟩
end Hx
end Go.Proofs.YtlgppednjkbgiaaGreatDoor
