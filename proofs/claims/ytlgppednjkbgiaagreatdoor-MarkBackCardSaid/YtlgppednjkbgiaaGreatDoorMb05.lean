/-
  Texts of one seat, put together: TextU, TextP, TextQ, EscR, NumR, NumS.
-/
import Derived.Test.YtlgppednjkbgiaaGreatDoorMbA
import Derived.Test.YtlgppednjkbgiaaGreatDoorMb04
import Derived.Laws.RangeAny
import Derived.Lib.OthersKept
import Derived.Deep.LoopGhost
import Derived.Test.YtlgppednjkbgiaaGreatDoorMb00
import Derived.Lib.AppendStr
import Derived.OwnWalk
import Derived.WalkKit
import Derived.ProofKit
import Derived.Below
set_option maxRecDepth 100000
set_option maxHeartbeats 16000000
set_option linter.unusedVariables false
namespace Go.Proofs.YtlgppednjkbgiaaGreatDoor
open Go.RowKit Go.Proofs.Tryz
namespace Hx
open Tx
theorem zKK:(prog.info? 5).map (fun i=>(i.zero,i.size,i.bytes))=some (some (.int .u8 0),1,1):=by kernel_rfl
def byL (l:List Int):List UInt8:=encs (l.map Int.toNat)
theorem zOo (l:List Int) (z:Int):byL (l++[z])=byL l++enc z.toNat:=by
 unfold byL;rw [List.map_append,zCm]
 simp [encs]
def ofR (l:List Int):ByteArray × Int:=if l.all may then (if 16384 < (byL l).length then (⟨#[]⟩,4) else (⟨(byL l).toArray⟩,0)) else (⟨#[]⟩,50)
theorem zPE (l:List Int) (k:Nat) (h:k < l.length) (h1:(l.take k).all may=true) (h2:may (l[k]'h)=true):(l.take (k+1)).all may=true:=by
 rw [List.take_succ_eq_append_getElem h,List.all_append,h1]
 simp [h2]
theorem zIx (l:List Int) (k:Nat) (h:k < l.length) (h2:may (l[k]'h)=false):l.all may=false:=by
 rw [List.all_eq_false];exact ⟨l[k]'h,List.getElem_mem h,by simp [h2]⟩
theorem zJc (s:ByteArray):chkE s=0∨chkE s=4∨chkE s=50:=by
 unfold chkE
 split
 · exact .inr (.inl rfl)
 · split
   · exact .inl rfl
   · exact .inr (.inr rfl)
theorem zO2 (n:Int) (b:Bool) (w:World) (hb:may n=b) :
 Calls prog 126 #[.int .i64 n] w fun e w'=>e=.returned (.bool b)∧w=w':=by
 by_cases a:n=9
 · subst a
   obtain rfl:true=b:=hb
   go_enter func126,ntmps126
   go_wp2
   go_ret
   exact ⟨rfl,rfl⟩
 have q1:(n==9)=false:=by simpa using a
 by_cases a2:n=10
 · subst a2
   obtain rfl:true=b:=hb
   go_enter func126,ntmps126
   go_wp2
   go_ret
   exact ⟨rfl,rfl⟩
 have q2:(n==10)=false:=by simpa using a2
 by_cases a3:n=13
 · subst a3
   obtain rfl:true=b:=hb
   go_enter func126,ntmps126
   go_wp2
   go_ret
   exact ⟨rfl,rfl⟩
 have q3:(n==13)=false:=by simpa using a3
 by_cases a6:n=65534
 · subst a6
   obtain rfl:false=b:=hb
   go_enter func126,ntmps126
   go_wp2
   go_ret
   exact ⟨rfl,rfl⟩
 have q6:(n==65534)=false:=by simpa using a6
 by_cases a7:n=65535
 · subst a7
   obtain rfl:false=b:=hb
   go_enter func126,ntmps126
   go_wp2
   go_ret
   exact ⟨rfl,rfl⟩
 have q7:(n==65535)=false:=by simpa using a7
 by_cases a4:55296≤n
 · have d4:decide (55296≤n)=true:=by simpa using a4
   have d8:decide (32≤n)=true:=by simp;omega
   by_cases a5:n≤57343
   · have d5:decide (n≤57343)=true:=by simpa using a5
     obtain rfl:false=b:=by
      rw [←hb,zGI (by omega)];have e1:decide (n < 55296)=false:=by simp;omega
      have e2:decide (57343 < n)=false:=by simp;omega
      rw [e1,e2];simp
     clear hb a4 a5
     go_enter func126,ntmps126
     go_wp2
     go_ret
     exact ⟨rfl,rfl⟩
   · have d5:decide (n≤57343)=false:=by simpa using a5
     have hb2:decide (n≤1114111)=b:=by
      rw [←hb,zGI (by omega)];have e1:decide (n < 55296)=false:=by simp;omega
      have e2:decide (57343 < n)=true:=by simp;omega
      rw [e1,e2];simp [a6,a7]
     clear hb a4 a5 a a2 a3 a6 a7
     go_enter func126,ntmps126
     go_wp2
     go_ret
     exact ⟨rfl,rfl⟩
 · have d4:decide (55296≤n)=false:=by simpa using a4
   by_cases a8:32≤n
   · have d8:decide (32≤n)=true:=by simpa using a8
     have d9:decide (n≤1114111)=true:=by simp;omega
     obtain rfl:true=b:=by
      rw [←hb,zGI (by omega),d9];have e1:decide (n < 55296)=true:=by simp;omega
      rw [e1];simp [a6,a7]
     clear hb a4 a8 a a2 a3 a6 a7
     go_enter func126,ntmps126
     go_wp2
     go_ret
     exact ⟨rfl,rfl⟩
   · have d8:decide (32≤n)=false:=by simpa using a8
     obtain rfl:false=b:=by
      rw [←hb,zQ7 (by omega)]
      simp [a,a2,a3]
     clear hb a4 a8 a a2 a3 a6 a7
     go_enter func126,ntmps126
     go_wp2
     go_ret
     exact ⟨rfl,rfl⟩
theorem zSb (s p:ByteArray) (q:Bool) (w:World) (hq:(decide (p.size≤s.size)&&decide ((s.extract 0 p.size)=p))=q) :
 Calls prog 158 #[.string s,.string p] w fun e w'=>e=.returned (.bool q)∧w=w':=by
 by_cases h:p.size≤s.size
 · have d0:decide ((p.size:Int)≤(s.size:Int))=true:=by simp;omega
   have e:((s.extract 0 p.size).toList==p.toList)=q:=by rw [zRD,←hq];simp [h]
   clear hq
   go_enter func158,ntmps158
   go_wp2
   go_ret
   exact ⟨rfl,rfl⟩
 · have d0:decide ((p.size:Int)≤(s.size:Int))=false:=by simp;omega
   obtain rfl:false=q:=by rw [←hq];simp [h]
   clear hq
   go_enter func158,ntmps158
   go_wp2
   go_ret
   exact ⟨rfl,rfl⟩
theorem pre5 (s p:ByteArray) (q:Bool) (w:World) (hq:(decide (p.size≤s.size)&&decide ((s.extract 0 p.size)=p))=q) :
 Calls prog 115 #[.string s,.string p] w fun e w'=>e=.returned (.bool q)∧w=w':=by
 have HQ:=hI hq;clear hq
 go_enter func115,ntmps115
 go_wp2_with (go_at_call 158;(with_reducible refine (zSb s p q w HQ.out).mono ?_);rintro e w1 ⟨rfl,rfl⟩)
 go_ret
 exact ⟨rfl,rfl⟩
def stnd:ByteArray:=⟨#[239,191,189]⟩
theorem zEU:enc 65533=[239,191,189]:=by decide +kernel
theorem zHx (s:ByteArray) (n:Nat):s.extract 0 n=⟨(s.data.toList.take n).toArray⟩:=by
 have:=ByteArray.extract_mk s.data.toList 0 n;rw [←zB4] at this;rw [this]
 simp
theorem zOK (l:List UInt8):(decide (stnd.size≤(⟨l.toArray⟩:ByteArray).size)&&decide (((⟨l.toArray⟩:ByteArray).extract 0 stnd.size)=stnd))=decide (l.take 3=[239,191,189]):=by
 rw [zHx];show (decide (3≤l.length)&&decide ((⟨(l.take 3).toArray⟩:ByteArray)=⟨#[239,191,189]⟩))=_;rw [Bool.eq_iff_iff];simp only [Bool.and_eq_true,decide_eq_true_eq]
 constructor
 · rintro ⟨_,h⟩
   have:=congrArg (fun x:ByteArray=>x.data.toList) h
   simpa using this
 · intro h
   refine ⟨?_,by rw [h]⟩;have:=congrArg List.length h;rw [List.length_take] at this
   simp at this
   omega
def zFA (l:List UInt8):Nat:=match decL l with | some p=>p.1 | none=>65533
theorem zJs (l:List UInt8):l.take 3=[239,191,189]↔decL l=some (65533,3):=by
 constructor
 · intro h
   have e:l=enc 65533++l.drop 3:=by rw [zEU,←h,List.take_append_drop]
   rw [e,zFE 65533 (by decide),zEU]
   rfl
 · intro h
   obtain ⟨_,_,r,e⟩:=zDd l _ _ h;rw [e,zEU]
   rfl
theorem zOZ (l:List UInt8):zFA l≤1114111:=by
 unfold zFA
 cases h:decL l with
 | none=>simp
 | some p =>
  obtain ⟨p,k⟩:=p;exact zLt (zDd l _ _ h).1
theorem zN4 (l:List UInt8):(one l).isSome=if zFA l=65533 then decide (l.take 3=[239,191,189]) else may (zFA l):=by
 unfold zFA one
 cases h:decL l with
 | none =>
  have:¬l.take 3=[239,191,189]:=by rw [zJs,h];simp
  simp [this]
 | some p =>
  obtain ⟨p,k⟩:=p;simp only
  by_cases hp:p=65533
  · subst hp
    have hs:=(zDd l _ _ h).2.1;rw [zEU] at hs;obtain rfl:k=3:=hs;rw [if_pos rfl,decide_eq_true ((zJs l).2 h)]
    decide
  · rw [if_neg hp]
    cases hm:may p <;> simp [hm]
theorem zNa (l:List UInt8) (s:ByteArray) (c:Nat) (b:Bool) (w:World) (hs:s=⟨l.toArray⟩) (hc:zFA l=c) (hb:(one l).isSome=b) :
 Calls prog 91 #[.string s,.int .i32 c] w fun e w'=>e=.returned (.bool b)∧w=w':=by
 have hle:=zOZ l;rw [zN4,hc] at hb;rw [hc] at hle;have g1:IntKind.i64.wrap (c:Int)=(c:Int):=IntWalk.i64_in _ (by omega);have hpre:=zOK l;rw [←hs] at hpre
 by_cases h:c=65533
 · rw [if_pos h] at hb
   rw [hb] at hpre;have HP:Hid (∀W:World,Calls prog 115 #[.string s,.string ⟨#[239,191,189]⟩] W fun e w'=>e=.returned (.bool b)∧W=w'):=fun W=>pre5 s stnd b W hpre
   subst h;clear hle hc hb hs hpre
   cases b
   · go_enter func91,ntmps91
     go_wp2_with (go_at_call 115;(with_reducible refine (HP.out _).mono ?_);rintro e w1 ⟨rfl,rfl⟩)
     go_ret
     exact ⟨rfl,rfl⟩
   · go_enter func91,ntmps91
     go_wp2_with (first
      | (go_at_call 115;(with_reducible refine (HP.out _).mono ?_);rintro e w1 ⟨rfl,rfl⟩)
      | (go_at_call 126;(with_reducible refine (zO2 65533 true w rfl).mono ?_);rintro e w1 ⟨rfl,rfl⟩)
      | fail)
     go_ret
     exact ⟨rfl,rfl⟩
 · rw [if_neg h] at hb
   have d0:((c:Int)==65533)=false:=by simp;omega
   have HB:=hI hb;clear hle hc hb hs hpre h
   go_enter func91,ntmps91
   go_wp2_with (first
    | (go_at_call 126;(with_reducible refine (zO2 c b w HB.out).mono ?_);rintro e w1 ⟨rfl,rfl⟩)
    | fail)
   go_ret
   exact ⟨rfl,rfl⟩
theorem zM5 (n:Int):bits .and .i64 n 63=n % 64:=by
 have h63:(BitVec.ofInt 64 63).toNat=2 ^ 6 - 1:=by decide
 have key:(BitVec.ofInt 64 n &&& BitVec.ofInt 64 63).toNat=(n % ((2 ^ 64:Nat):Int)).toNat % 2 ^ 6:=by
  rw [BitVec.toNat_and,BitVec.toNat_ofInt,h63,Nat.and_two_pow_sub_one_eq_mod]
 show IntKind.i64.wrap ((BitVec.ofInt 64 n &&& BitVec.ofInt 64 63).toNat:Nat)=n % 64;rw [key,IntKind.wrap_i64]
 omega
theorem sixT (n:Nat) (b:UInt8) (w:World) (hn:n≤1114111) (hb:bt (128+n % 64)=b) :
 Calls prog 262 #[.int .i64 n] w fun e w'=>e=.returned (.int .u8 b.toNat)∧w=w':=by
 have hbn:b.toNat=128+n % 64:=by rw [←hb,zBH _ (by omega)]
 have ha:=zM5 (n:Int);obtain ⟨q,hq⟩:∃q:Nat,n % 64=q:=⟨_,rfl⟩;have ha2:bits .and .i64 (n:Int) 63=(q:Int):=by rw [ha];omega
 have g1:IntKind.u8.wrap (q:Int)=(q:Int):=IntWalk.u8_in _ (by omega);have g2:IntKind.u8.wrap (128+(q:Int))=(b.toNat:Int):=by rw [IntWalk.u8_in _ (by omega)];omega
 clear ha hq hbn hb
 go_enter func262,ntmps262
 go_wp2
 go_ret
 exact ⟨rfl,rfl⟩
theorem zGM (s:ByteArray) (a:Nat):(s.data.toList.drop a).length=s.size - a:=by rw [List.length_drop,zAV]
theorem zNE (s:ByteArray) (a p k:Nat) (ha:a < s.size) (ho:one (s.data.toList.drop a)=some (p,k)) :
 Utf8.decode s a=(p,k)∧zFA (s.data.toList.drop a)=p∧1≤k∧a+k≤s.size∧pts (s.data.toList.drop a)=(pts (s.data.toList.drop (a+k))).map (p::·):=by
 have hne:s.data.toList.drop a≠[]:=by
  intro h;have:=zGM s a;rw [h] at this
  simp at this
  omega
 have hd:decL (s.data.toList.drop a)=some (p,k):=by
  unfold one at ho;rw [Option.filter_eq_some_iff] at ho;exact ho.1
 obtain ⟨h1,h2,_⟩:=zRs ho;rw [zGM] at h2;refine ⟨?_,?_,h1,by omega,?_⟩
 · rw [zDe s a ha,hd]
 · rw [zFA,hd]
 · rw [zJ0 _ hne,ho]
   show Option.map _ (pts (List.drop k (List.drop a s.data.toList)))=_;rw [List.drop_drop]
theorem zME (s:ByteArray) (a:Nat) (ha:a < s.size):(Utf8.decode s a).1=zFA (s.data.toList.drop a):=by
 rw [zDe s a ha,zFA]
 cases decL (s.data.toList.drop a) <;> rfl
theorem zNp (s:ByteArray) (a:Nat) (ha:a < s.size) (ho:one (s.data.toList.drop a)=none):pts (s.data.toList.drop a)=none:=by
 have hne:s.data.toList.drop a≠[]:=by
  intro h;have:=zGM s a;rw [h] at this
  simp at this
  omega
 rw [zJ0 _ hne,ho]
theorem zQK (s:ByteArray) (a:Nat) (h:¬a < s.size):pts (s.data.toList.drop a)=some []:=by
 rw [List.drop_of_length_le (by rw [zAV];omega)]
 rfl
theorem zD1 (w:World) (s:ByteArray) (p:Nat):Below w.heap.size w (w.iter s p):=stpA (Below.refl _ _) _
theorem zCb (s:ByteArray) (w:World) (hm:s.size≤1000000) (q:Int) (h:chkE s=q):Calls prog 47 #[.string s] w fun e w'=>e=.returned (.int .i64 q)∧Below w.heap.size w w':=by
 unfold chkE at h
 by_cases h1:16384 < s.size
 · rw [if_pos h1] at h
   subst h;have d0:decide ((16384:Int) < (s.size:Int))=true:=by simp;omega
   clear hm
   go_enter func47,ntmps47
   go_wp2_with fail
   go_ret
   exact ⟨rfl,Below.refl _ _⟩
 · rw [if_neg h1] at h
   have d0:decide ((16384:Int) < (s.size:Int))=false:=by simp;omega
   have d1:¬(16384 < s.size):=h1;have HQ:=hI h;clear h hm
   go_enter func47,ntmps47
   go_wp2_with fail
   go_loopg [3,4] s.size (fun g x y wr=>∃pos:Nat,s.size≤pos+g∧wr=w.iter s pos∧(pts (s.data.toList.drop pos)).isSome=(pts s.data.toList).isSome)
   case atStart=>exact ⟨0,by omega,rfl,rfl⟩
   case round =>
    obtain ⟨pos,hg,rfl,hp⟩:=hrel;have HP:=hI hp;clear hp
    by_cases hlt:pos < s.size
    · have hnx:∀ty,(Instr.next (.pointer (some ⟨w.heap.size,0,none⟩)) true ty).run prog (w.iter s pos)=_:=fun ty=>run_next_any w s pos ty hlt
      have b0:(0:Int)≤(pos:Int)∧(pos:Int)≤(s.size:Int):=by omega
      have b1:pos≤s.size:=by omega
      obtain ⟨c,hc⟩:∃c,zFA (s.data.toList.drop pos)=c:=⟨_,rfl⟩;have HX:=hI (zII s pos);have HC:=hI hc;rw [zME s pos hlt,hc] at hnx
      cases ho:one (s.data.toList.drop pos) with
      | none =>
       have hq:=HQ.out;rw [←HP.out,zNp s pos hlt ho] at hq;obtain rfl:(50:Int)=q:=hq;have HO:Hid ((one (s.data.toList.drop pos)).isSome=false):=by show _=_;rw [ho];rfl
       clear hc ho
       go_wp2_with (go_at_call 91;(with_reducible refine (zNa (s.data.toList.drop pos) _ c false _ HX.out HC.out HO.out).mono ?_);rintro e w1 ⟨rfl,rfl⟩)
       go_ret
       exact ⟨rfl,zD1 w s _⟩
      | some x =>
       obtain ⟨p,k⟩:=x;obtain ⟨e1,e2,e3,e4,e5⟩:=zNE s pos p k hlt ho;have HO:Hid ((one (s.data.toList.drop pos)).isSome=true):=by show _=_;rw [ho];rfl
       rw [e1] at hnx
       have HN:Hid ((pts (s.data.toList.drop (pos+k))).isSome=(pts s.data.toList).isSome):=by
        show _=_;rw [←HP.out,e5]
        simp
       clear hc ho e1 e2 e5
       go_wp2_with (go_at_call 91;(with_reducible refine (zNa (s.data.toList.drop pos) _ c true _ HX.out HC.out HO.out).mono ?_);rintro e w1 ⟨rfl,rfl⟩)
       go_roundg (gk - 1)
       case rel=>exact ⟨pos+k,by omega,rfl,HN.out⟩
       case measure=>omega
    · have hnx:∀ty,(Instr.next (.pointer (some ⟨w.heap.size,0,none⟩)) true ty).run prog (w.iter s pos)=_:=fun ty=>run_next_end w s pos ty hlt
      have hq:=HQ.out;rw [←HP.out,zQK s pos hlt] at hq;obtain rfl:(0:Int)=q:=hq
      go_wp2_with fail
      go_ret
      exact ⟨rfl,zD1 w s _⟩
end Hx
namespace Hx
open Tx Nmb Es
theorem zJz (s:ByteArray) (k:Nat) (h:k < s.size):∃c,s.data.toList[k]?=some c∧∀(h:k < s.size),s[k]'h=c:=by
 refine ⟨s[k]'h,?_,fun _=>rfl⟩;have e:k < s.data.toList.length:=by rw [zAV];exact h
 rw [List.getElem?_eq_getElem e]
 rfl
theorem zDB {α:Type} {l:List α} {k:Nat} {c:α} (h:l[k]?=some c):l.take (k+1)=l.take k++[c]:=by
 obtain ⟨hk,e⟩:=List.getElem?_eq_some_iff.1 h;rw [List.take_succ_eq_append_getElem hk,e]
def escS (q:Bool) (s:ByteArray):ByteArray:=⟨(escL q s.data.toList).toArray⟩
theorem zMd (q:Bool) (s:ByteArray):s.size≤(escS q s).size∧(escS q s).size≤6*s.size:=by
 have:=zCn q s.data.toList;rw [←zAV s,←zAV (escS q s)];exact this
def putR (s:ByteArray) (q:Bool):ByteArray × Int:=if chkE s≠0 then (⟨#[]⟩,chkE s) else if 16384 < (escS q s).size then (⟨#[]⟩,4) else (escS q s,0)
end Hx
namespace Hx
open Nmb
theorem zEj (s:ByteArray):s.data.toList.length=s.size:=by cases s;simp [ByteArray.size]
theorem zPA (l:List UInt8) (k:Nat) (h:k < l.length) (h2:isDg (l[k]'h)=false):l.all isDg=false:=by
 rw [List.all_eq_false];exact ⟨l[k]'h,List.getElem_mem h,by simp [h2]⟩
theorem at6 (s:ByteArray) (k:Nat) (h:k < s.size):s.data.toList[k]'(by rw [zEj];exact h)=s[k]'h:=by cases s;rfl
def zFO (l:List UInt8):Int × Int:=match zDZ l with | some n=>(n,0) | none=>(0,60)
end Hx
end Go.Proofs.YtlgppednjkbgiaaGreatDoor
