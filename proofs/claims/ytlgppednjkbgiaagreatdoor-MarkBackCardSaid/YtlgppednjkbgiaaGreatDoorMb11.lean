/-
  Texts of one seat, put together: LeaE, TreC, TreD, TreE, TreF, TreI.
-/
import Derived.Test.YtlgppednjkbgiaaGreatDoorMbA
import Derived.Test.YtlgppednjkbgiaaGreatDoorMb03
import Derived.Test.YtlgppednjkbgiaaGreatDoorMb07
import Derived.Test.YtlgppednjkbgiaaGreatDoorShelf
import Derived.Test.YtlgppednjkbgiaaGreatDoorMb10
import Derived.Maps.AppendAt
import Derived.Deep.AppendLies
import Derived.OneCell
import Derived.Laws.EntriesVeiled
import Derived.Test.YtlgppednjkbgiaaGreatDoorMb02
import Derived.Test.YtlgppednjkbgiaaGreatDoorMb06
import Derived.Deep.QuietTactic
import Derived.BigQuiet
set_option maxRecDepth 100000
set_option maxHeartbeats 16000000
set_option linter.unusedVariables false
namespace Go.Proofs.YtlgppednjkbgiaaGreatDoor
open Go.RowKit Go.Proofs.Tryz
namespace Hx
open Lx Tx Nmb Es
def Rd (b:Nat) (s:ByteArray) (w:World):Prop:=w.heap[b]?=some (.cells #[.string s] 176 (0,0))
theorem Rd.lt {b:Nat} {s:ByteArray} {w:World} (h:Rd b s w):b < w.heap.size:=(Array.getElem?_eq_some_iff.1 h).1
theorem Rd.cell {b:Nat} {s:ByteArray} {w:World} (h:Rd b s w):w.cell? ⟨b,0,none⟩=some (.string s):=by
 unfold Rd at h
 simp [World.cell?,h]
theorem Rd.free {b:Nat} {s:ByteArray} {w:World} (h:Rd b s w):w.frozen? ⟨b,0,none⟩=false:=by
 unfold Rd at h
 simp [World.frozen?,h]
theorem Rd.set {b:Nat} {s:ByteArray} {w:World} (h:Rd b s w) (t:ByteArray):Rd b t (w.setCell ⟨b,0,none⟩ (.string t)):=by
 unfold Rd at h ⊢
 simp [World.setCell,Array.getElem?_modify,h]
theorem Rd.below {b:Nat} {s:ByteArray} {w w':World} (h:Rd b s w) (hb:Below w.heap.size w w'):Rd b s w':=(hb.block b h.lt).trans h
theorem zBS {w w':World} (h:Below w.heap.size w w') (row:Option Nat):w.grownBy w' row:=⟨h.os,h.tape,h.output,h.size,fun k hk _=>h.block k hk⟩
theorem zBW (w:World) (b:Nat) (v:Value):w.grownBy (w.setCell ⟨b,0,none⟩ v) (some b):=⟨rfl,rfl,rfl,by simp [World.setCell],fun k _ hne=>Below.heap_setCell _ _ _ _ (fun e=>hne (by rw [e]))⟩
theorem zDJ {w w':World} {b n:Nat} (h:w.grownBy w' (some b)) (hn:n≤b) (hs:b < w.heap.size):Below n w w':=⟨h.os,h.tape,h.output,h.size,fun k hk=>h.block k (by omega) (fun e=>by injection e;omega)⟩
structure Went (b:Nat) (t:ByteArray) (w w':World):Prop where
 rd:Rd b t w'
 gr:w.grownBy w' (some b)
theorem Went.trans {b:Nat} {s t:ByteArray} {w w1 w2:World} (h:Went b s w w1) (k:Went b t w1 w2):Went b t w w2:=⟨k.rd,h.gr.trans k.gr⟩
theorem Went.after {b:Nat} {t:ByteArray} {w w1 w2:World} (h:Below w.heap.size w w1) (k:Went b t w1 w2):Went b t w w2:=⟨k.rd,(zBS h _).trans k.gr⟩
theorem Went.then {b:Nat} {t:ByteArray} {w w1 w2:World} (h:Went b t w w1) (k:Below w1.heap.size w1 w2):Went b t w w2:=⟨h.rd.below k,h.gr.trans (zBS k _)⟩
def zAR (er:Int):Ending:=.panicked [{ v:=.iface 25 (.int .i64 er),recovered:=false }]
theorem zR8 (b:Nat) (s t p:ByteArray) (is:Bool) (w:World) (h:Rd b s w) (h1:Lib.hasPrefix s.data.toList p.data.toList=is) (h2:Lib.trimPrefix s.data.toList p.data.toList=t.data.toList) :
 Calls prog 172 #[.pointer (some ⟨b,0,none⟩),.string p] w fun e w'=>e=.returned (.bool is)∧Went b t w w':=by
 have HC:Hid (Calls prog 198 #[.string s,.string p] w fun e w'=>e=.returned (.tuple #[.string t,.bool is])∧w=w'):=hI ((Tryz.strings_CutPrefix s p w).mono fun e w' ⟨k1,k2⟩=>⟨by rw [k1,h1,h2],k2.symm⟩);have hc:=h.cell;have hf:=h.free;have HR:=hI h;clear h h1 h2
 go_enter func172,ntmps172
 go_wp2_with (first
  | (go_at_call 198;(with_reducible refine (HC.out).mono ?_);rintro e1 w1 ⟨rfl,rfl⟩)
  | fail)
 go_ret
 exact ⟨rfl,HR.out.set _,zBW _ _ _⟩
theorem zP9 (l:List UInt8):(⟨l.toArray⟩:ByteArray).data.toList=l:=by simp
theorem zEq (q:UInt8) (l:List UInt8):(q∉l∧l.takeWhile (ne q)=l)∨∃y,l=l.takeWhile (ne q)++q::y∧q∉l.takeWhile (ne q):=by
 obtain ⟨h1,h2,h3⟩:=zAU (ne q) l;have hn:q∉l.takeWhile (ne q):=fun hx=>(zNe q q).1 (h2 _ hx) rfl
 cases hd:l.dropWhile (ne q) with
 | nil =>
  rw [hd,List.append_nil] at h1;exact .inl ⟨by rw [h1];exact hn,h1.symm⟩
 | cons d y =>
  have hdq:d=q:=by have:=h3 d y hd;unfold ne at this;simpa using this
  subst hdq;rw [hd] at h1;exact .inr ⟨y,h1,hn⟩
theorem zBk (s:ByteArray) (w:World) (h0:s.size≤1000000) :
 Calls prog 87 #[.string s] w fun e w'=>e=.returned (.string s)∧Below w.heap.size w w':=by
 have H0:Hid (s.size≤281474976710656):=hI (by omega);clear h0
 go_enter func87,ntmps87
 go_wp2_with (go_at_call 119;(with_reducible refine (Tryz.stringslite_Clone s w H0.out).mono ?_);rintro e w1 ⟨rfl,hb1⟩)
 go_ret
 exact ⟨rfl,hb1⟩
theorem zLW (p t:List UInt8):Lib.hasPrefix (p++t) p=true∧Lib.trimPrefix (p++t) p=t:=by
 refine ⟨?_,?_⟩
 · simp [Lib.hasPrefix]
 · simp [Lib.trimPrefix,Lib.hasPrefix]
theorem zPT {l p:List UInt8} (h:¬p <+: l):Lib.hasPrefix l p=false∧Lib.trimPrefix l p=l:=by
 have h1:Lib.hasPrefix l p=false:=by
  cases hb:Lib.hasPrefix l p with
  | false=>rfl
  | true=>exact absurd (by simpa [Lib.hasPrefix] using hb) h
 exact ⟨h1,by simp [Lib.trimPrefix,h1]⟩
theorem zBv (b:Nat) (s t p:ByteArray) (w:World) (h:Rd b s w) (h1:s.data.toList=p.data.toList++t.data.toList) :
 Calls prog 172 #[.pointer (some ⟨b,0,none⟩),.string p] w fun e w'=>e=.returned (.bool true)∧Went b t w w' :=
 zR8 b s t p true w h (by rw [h1];exact (zLW _ _).1) (by rw [h1];exact (zLW _ _).2)
theorem zBi (b:Nat) (s p:ByteArray) (w:World) (h:Rd b s w) (h1:¬p.data.toList <+: s.data.toList) :
 Calls prog 172 #[.pointer (some ⟨b,0,none⟩),.string p] w fun e w'=>e=.returned (.bool false)∧Went b s w w' :=
 zR8 b s s p false w h (zPT h1).1 (zPT h1).2
theorem zBw (b:Nat) (s t p:ByteArray) (w:World) (h:Rd b s w) (h1:s.data.toList=p.data.toList++t.data.toList) :
 Calls prog 201 #[.pointer (some ⟨b,0,none⟩),.string p] w fun e w'=>e=.returned (.tuple #[])∧Went b t w w':=by
 have HC:=hI (zBv b s t p w h h1);clear h h1
 go_enter func201,ntmps201
 go_wp2_with (first
  | (go_at_call 172;(with_reducible refine (HC.out).mono ?_);rintro e1 w1 ⟨rfl,hw1⟩)
  | fail)
 go_end0
 exact ⟨rfl,hw1⟩
theorem zFJ (b:Nat) (s p:ByteArray) (w:World) (h:Rd b s w) (h1:¬p.data.toList <+: s.data.toList) :
 Calls prog 201 #[.pointer (some ⟨b,0,none⟩),.string p] w fun e w'=>e=zAR 80∧Went b s w w':=by
 have HC:=hI (zBi b s p w h h1);unfold zAR;clear h h1
 go_enter func201,ntmps201
 go_wp2_with (first
  | (go_at_call 172;(with_reducible refine (HC.out).mono ?_);rintro e1 w1 ⟨rfl,hw1⟩)
  | fail)
 exact ⟨rfl,rfl,hw1⟩
theorem zJa (b:Nat) (s t u:ByteArray) (w:World) (h:Rd b s w) (hm:s.size≤1000000) (ht:t.data.toList=s.data.toList.takeWhile (ne 60)) (hu:u.data.toList=s.data.toList.dropWhile (ne 60)) :
 Calls prog 176 #[.pointer (some ⟨b,0,none⟩),.string ⟨#[60]⟩] w fun e w'=>e=.returned (.string t)∧Went b u w w':=by
 obtain ⟨h1,h2,h3⟩:=zAU (ne 60) s.data.toList;have hc:=h.cell;have hf:=h.free;have HR:=hI h;have hl:=congrArg List.length h1;rw [List.length_append,←ht,←hu,ba_l,ba_l,ba_l] at hl
 have HC:Hid (∃(r:ByteArray) (f:Bool),Calls prog 82 #[.string s,.string ⟨#[60]⟩] w (zAv t r f w)):=hI (by
  rcases zEq 60 s.data.toList with ⟨k1,k2⟩ | ⟨y,k1,k2⟩
  · have e:t=s:=ba_x (ht.trans k2)
    exact ⟨⟨#[]⟩,false,by rw [e];exact zHH s w k1⟩
  · exact ⟨⟨y.toArray⟩,true,zHq s t ⟨y.toArray⟩ w hm (by rw [ht,zP9];exact k1) (by rw [ht];exact k2)⟩)
 obtain ⟨k,hk⟩:∃k,t.size=k:=⟨_,rfl⟩
 have hex:s.extract k s.size=u:=ba_x (by
  rw [zAh s k s.size (Nat.le_refl _),hu,←(zJd (ne 60) s.data.toList).1,←ht,ba_l,hk,List.take_of_length_le (by rw [List.length_drop,ba_l];omega)])
 have bk:(0:Int)≤(k:Int)∧(k:Int)≤(s.size:Int):=by omega
 obtain ⟨r,f,hcut⟩:=HC.out;have HCUT:=hI hcut;clear h hm ht hu h1 h2 h3 hl hcut HC
 go_enter func176,ntmps176
 go_wp2_with (first
  | (go_at_call 82;(with_reducible refine (HCUT.out).mono ?_);rintro e1 w1 ⟨rfl,hb1⟩;have HR1:=hI (HR.out.below hb1);have hc1:=HR1.out.cell;have hf1:=HR1.out.free)
  | fail)
 go_ret
 exact ⟨rfl,Went.after hb1 ⟨HR1.out.set _,zBW _ _ _⟩⟩
theorem zGS (b:Nat) (s t u:ByteArray) (w:World) (h:Rd b s w) (hm:s.size≤1000000) (ht:t.data.toList=s.data.toList.takeWhile (ne 34)) (hu:u.data.toList=s.data.toList.dropWhile (ne 34)) :
 Calls prog 176 #[.pointer (some ⟨b,0,none⟩),.string ⟨#[34]⟩] w fun e w'=>e=.returned (.string t)∧Went b u w w':=by
 obtain ⟨h1,h2,h3⟩:=zAU (ne 34) s.data.toList;have hc:=h.cell;have hf:=h.free;have HR:=hI h;have hl:=congrArg List.length h1;rw [List.length_append,←ht,←hu,ba_l,ba_l,ba_l] at hl
 have HC:Hid (∃(r:ByteArray) (f:Bool),Calls prog 82 #[.string s,.string ⟨#[34]⟩] w (zAv t r f w)):=hI (by
  rcases zEq 34 s.data.toList with ⟨k1,k2⟩ | ⟨y,k1,k2⟩
  · have e:t=s:=ba_x (ht.trans k2)
    exact ⟨⟨#[]⟩,false,by rw [e];exact zHD s w k1⟩
  · exact ⟨⟨y.toArray⟩,true,zG0 s t ⟨y.toArray⟩ w hm (by rw [ht,zP9];exact k1) (by rw [ht];exact k2)⟩)
 obtain ⟨k,hk⟩:∃k,t.size=k:=⟨_,rfl⟩
 have hex:s.extract k s.size=u:=ba_x (by
  rw [zAh s k s.size (Nat.le_refl _),hu,←(zJd (ne 34) s.data.toList).1,←ht,ba_l,hk,List.take_of_length_le (by rw [List.length_drop,ba_l];omega)])
 have bk:(0:Int)≤(k:Int)∧(k:Int)≤(s.size:Int):=by omega
 obtain ⟨r,f,hcut⟩:=HC.out;have HCUT:=hI hcut;clear h hm ht hu h1 h2 h3 hl hcut HC
 go_enter func176,ntmps176
 go_wp2_with (first
  | (go_at_call 82;(with_reducible refine (HCUT.out).mono ?_);rintro e1 w1 ⟨rfl,hb1⟩;have HR1:=hI (HR.out.below hb1);have hc1:=HR1.out.cell;have hf1:=HR1.out.free)
  | fail)
 go_ret
 exact ⟨rfl,Went.after hb1 ⟨HR1.out.set _,zBW _ _ _⟩⟩
theorem zGb (b:Nat) (s t u:ByteArray) (w:World) (h:Rd b s w) (hm:s.size≤1000000) (ht:t.data.toList=s.data.toList.takeWhile (ne 39)) (hu:u.data.toList=s.data.toList.dropWhile (ne 39)) :
 Calls prog 176 #[.pointer (some ⟨b,0,none⟩),.string ⟨#[39]⟩] w fun e w'=>e=.returned (.string t)∧Went b u w w':=by
 obtain ⟨h1,h2,h3⟩:=zAU (ne 39) s.data.toList;have hc:=h.cell;have hf:=h.free;have HR:=hI h;have hl:=congrArg List.length h1;rw [List.length_append,←ht,←hu,ba_l,ba_l,ba_l] at hl
 have HC:Hid (∃(r:ByteArray) (f:Bool),Calls prog 82 #[.string s,.string ⟨#[39]⟩] w (zAv t r f w)):=hI (by
  rcases zEq 39 s.data.toList with ⟨k1,k2⟩ | ⟨y,k1,k2⟩
  · have e:t=s:=ba_x (ht.trans k2)
    exact ⟨⟨#[]⟩,false,by rw [e];exact zIL s w k1⟩
  · exact ⟨⟨y.toArray⟩,true,zIK s t ⟨y.toArray⟩ w hm (by rw [ht,zP9];exact k1) (by rw [ht];exact k2)⟩)
 obtain ⟨k,hk⟩:∃k,t.size=k:=⟨_,rfl⟩
 have hex:s.extract k s.size=u:=ba_x (by
  rw [zAh s k s.size (Nat.le_refl _),hu,←(zJd (ne 39) s.data.toList).1,←ht,ba_l,hk,List.take_of_length_le (by rw [List.length_drop,ba_l];omega)])
 have bk:(0:Int)≤(k:Int)∧(k:Int)≤(s.size:Int):=by omega
 obtain ⟨r,f,hcut⟩:=HC.out;have HCUT:=hI hcut;clear h hm ht hu h1 h2 h3 hl hcut HC
 go_enter func176,ntmps176
 go_wp2_with (first
  | (go_at_call 82;(with_reducible refine (HCUT.out).mono ?_);rintro e1 w1 ⟨rfl,hb1⟩;have HR1:=hI (HR.out.below hb1);have hc1:=HR1.out.cell;have hf1:=HR1.out.free)
  | fail)
 go_ret
 exact ⟨rfl,Went.after hb1 ⟨HR1.out.set _,zBW _ _ _⟩⟩
theorem zRg (p:UInt8→Bool):∀{l:List UInt8} {k:Nat},k≤l.length→(∀c∈l.take k,p c=true)→(∀h:k < l.length,p (l[k]'h)=false)→l.takeWhile p=l.take k∧l.dropWhile p=l.drop k:=by
 intro l k hk h1 h2
 have:=zDs (p:=p) (a:=l.take k) (b:=l.drop k) h1 (fun c r e=>by
  have hlt:k < l.length:=by
   rcases Nat.lt_or_ge k l.length with h | h
   · exact h
   · rw [List.drop_of_length_le h] at e;cases e
  rw [List.drop_eq_getElem_cons hlt] at e;injection e with e _;rw [←e];exact h2 hlt)
 rwa [List.take_append_drop] at this
theorem zHc (p:UInt8→Bool) {l:List UInt8} {k:Nat} (hk:k < l.length) (h:∀c∈l.take k,p c=true) (h1:p (l[k]'hk)=true):∀c∈l.take (k+1),p c=true:=by
 intro c hc;rw [List.take_succ_eq_append_getElem hk,List.mem_append,List.mem_singleton] at hc;rcases hc with hc | rfl
 · exact h c hc
 · exact h1
theorem zR9 (c:UInt8) (w:World) (q:Bool) (h:wch c=q) :
 Calls prog 222 #[.int .u8 c.toNat] w fun e w'=>e=.returned (.bool q)∧w=w':=by
 unfold wch at h
 by_cases h58:c=58
 · subst h58
   obtain rfl:true=q:=by rw [←h];decide
   clear h
   go_enter func222,ntmps222
   go_wp2_with fail
   go_ret
   exact ⟨rfl,rfl⟩
 · have h2:nch c=q:=by rw [←h,(by simpa using h58:(c==58)=false),Bool.or_false]
   have HN:=hI h2
   have g58:((c.toNat:Int)==58)=false:=by
    have:c.toNat≠58:=fun e=>h58 (UInt8.toNat_inj.1 e)
    simp;omega
   clear h h2 h58
   cases q with
   | false =>
    go_enter func222,ntmps222
    go_wp2_with (first
     | (go_at_call 57;(with_reducible refine (zGP c _ false HN.out).mono ?_);rintro e1 w1 ⟨rfl,rfl⟩)
     | fail)
    go_ret
    exact ⟨rfl,rfl⟩
   | true =>
    go_enter func222,ntmps222
    go_wp2_with (first
     | (go_at_call 57;(with_reducible refine (zGP c _ true HN.out).mono ?_);rintro e1 w1 ⟨rfl,rfl⟩)
     | fail)
    go_ret
    exact ⟨rfl,rfl⟩
theorem zGn (c:UInt8):∃j:Int,Lib.indexByte [32,9,10,13] c=j∧decide ((0:Int)≤j)=blk c:=by
 refine ⟨_,rfl,?_⟩;rcases zBR [32,9,10,13] c with ⟨h1,h2⟩ | ⟨i,h1,_,h2,_⟩
 · rw [h1]
   simp only [List.mem_cons,List.not_mem_nil,or_false,not_or] at h2;unfold blk
   simp [h2.1,h2.2.1,h2.2.2.1,h2.2.2.2]
 · rw [h1]
   have hm:c∈([32,9,10,13]:List UInt8):=by rw [h2];simp
   simp only [List.mem_cons,List.not_mem_nil,or_false] at hm;have:blk c=true:=by rcases hm with rfl | rfl | rfl | rfl <;> decide
   rw [this];exact decide_eq_true (by omega)
theorem zPm (c:UInt8) (w:World) (q:Bool) (h:blk c=q) :
 Calls prog 223 #[.int .u8 c.toNat] w fun e w'=>e=.returned (.bool q)∧w=w':=by
 obtain ⟨j,hj,hd⟩:=zGn c;rw [h] at hd;have HC:Hid (Calls prog 187 #[.string ⟨#[32,9,10,13]⟩,.int .u8 c.toNat] w fun e w'=>e=.returned (.int .i64 j)∧w=w'):=hI ((Tryz.stringslite_IndexByte ⟨#[32,9,10,13]⟩ _ w).mono fun e w' ⟨k1,k2⟩=>⟨by rw [k1,←hj];simp,k2.symm⟩);clear h hj
 go_enter func223,ntmps223
 go_wp2_with (first
  | (go_at_call 187;(with_reducible refine (HC.out).mono ?_);rintro e1 w1 ⟨rfl,rfl⟩)
  | go_in)
 go_ret
 first
  | exact ⟨rfl,rfl⟩
  | exact ⟨zQU hd,rfl⟩
theorem zFX (b:Nat) (s t u:ByteArray) (w:World) (h:Rd b s w) (hm:s.size≤1000000) (ht:t.data.toList=s.data.toList.takeWhile wch) (hu:u.data.toList=s.data.toList.dropWhile wch) :
 Calls prog 221 #[.pointer (some ⟨b,0,none⟩),.func (.func 222) #[] #[]] w fun e w'=>e=.returned (.string t)∧Went b u w w':=by
 have hc:=h.cell;have hf:=h.free;have HR:=hI h;have HM:=hI hm
 have HEND:Hid (∀k,k≤s.size→(∀c∈s.data.toList.take k,wch c=true)→(∀h:k < s.data.toList.length,wch (s.data.toList[k]'h)=false)→s.extract 0 k=t∧s.extract k s.size=u):=hI fun k hk h1 h2=>by
  obtain ⟨e1,e2⟩:=zRg wch (by rw [ba_l];exact hk) h1 h2;refine ⟨ba_x ?_,ba_x ?_⟩
  · rw [zAh s 0 k hk,ht,e1,List.drop_zero,Nat.sub_zero]
  · rw [zAh s k s.size (Nat.le_refl _),hu,e2,List.take_of_length_le (by rw [List.length_drop,ba_l];omega)]
 clear h ht hu hm
 go_enter func221,ntmps221
 go_wp2_with fail
 go_loopw [5] (fun i wr=>∃k:Nat,k≤s.size∧i=.int .i64 k∧(∀c∈s.data.toList.take k,wch c=true)∧w=wr) (fun i _=>s.size - (intOf i).toNat)
 case atStart=>exact ⟨0,Nat.zero_le _,rfl,by simp,by first | rfl | trivial⟩
 case round =>
  obtain ⟨k,hk,rfl,hn,rfl⟩:=hrel;have hs:=HM.out
  by_cases hlt:k < s.size
  · obtain ⟨d,hd⟩:∃d,s[k]'hlt=d:=⟨_,rfl⟩
    have hda:∀h,s[k]'h=d:=fun _=>hd
    have hkl:k < s.data.toList.length:=by rw [ba_l];exact hlt
    have hdk:s.data.toList[k]'hkl=d:=(at_l s k hlt).trans hd;have bk:(0:Int)≤(k:Int)∧(k:Int) < (s.size:Int):=by omega
    have bk2:(0:Int)≤(k:Int)∧(k:Int)≤(s.size:Int):=by omega
    cases hg:wch d with
    | false =>
     have HD:=hI hg;obtain ⟨e1,e2⟩:=HEND.out k hk hn (fun _=>by rw [hdk];exact hg);clear hg hd hdk hn
     go_wp2_with (first
      | (go_at_call 222;(with_reducible refine (zR9 d _ false HD.out).mono ?_);rintro e1 w1 ⟨rfl,rfl⟩)
      | fail)
     go_ret
     exact ⟨rfl,HR.out.set _,zBW _ _ _⟩
    | true =>
     have HD:=hI hg;have HV:=hI (zHc wch hkl hn (by rw [hdk];exact hg));clear hg hd hdk hn
     go_wp2_with (first
      | (go_at_call 222;(with_reducible refine (zR9 d _ true HD.out).mono ?_);rintro e1 w1 ⟨rfl,rfl⟩)
      | fail)
     go_roundw
     case rel=>exact ⟨k+1,hlt,by go_num,HV.out,by first | rfl | trivial⟩
     case measure=>simp [intOf];omega
  · obtain rfl:k=s.size:=by omega
    obtain ⟨e1,e2⟩:=HEND.out s.size (Nat.le_refl _) hn (fun h=>by rw [ba_l] at h;omega);obtain rfl:s=t:=by rw [←e1];exact (ba_x (by rw [zAh s 0 s.size (Nat.le_refl _),List.drop_zero,Nat.sub_zero,List.take_of_length_le (by rw [ba_l];exact Nat.le_refl _)])).symm
    obtain rfl:ByteArray.empty=u:=by rw [←e2];exact (ba_x (by rw [zAh s s.size s.size (Nat.le_refl _),List.drop_of_length_le (by rw [ba_l];exact Nat.le_refl _),List.take_nil];rfl)).symm
    clear e1 e2;have bk2:(0:Int)≤(s.size:Int)∧(s.size:Int)≤(s.size:Int):=by omega
    clear hn
    go_wp2_with fail
    go_ret
    exact ⟨rfl,HR.out.set _,zBW _ _ _⟩
theorem zIQ (b:Nat) (s t u:ByteArray) (w:World) (h:Rd b s w) (hm:s.size≤1000000) (ht:t.data.toList=s.data.toList.takeWhile blk) (hu:u.data.toList=s.data.toList.dropWhile blk) :
 Calls prog 221 #[.pointer (some ⟨b,0,none⟩),.func (.func 223) #[] #[]] w fun e w'=>e=.returned (.string t)∧Went b u w w':=by
 have hc:=h.cell;have hf:=h.free;have HR:=hI h;have HM:=hI hm
 have HEND:Hid (∀k,k≤s.size→(∀c∈s.data.toList.take k,blk c=true)→(∀h:k < s.data.toList.length,blk (s.data.toList[k]'h)=false)→s.extract 0 k=t∧s.extract k s.size=u):=hI fun k hk h1 h2=>by
  obtain ⟨e1,e2⟩:=zRg blk (by rw [ba_l];exact hk) h1 h2;refine ⟨ba_x ?_,ba_x ?_⟩
  · rw [zAh s 0 k hk,ht,e1,List.drop_zero,Nat.sub_zero]
  · rw [zAh s k s.size (Nat.le_refl _),hu,e2,List.take_of_length_le (by rw [List.length_drop,ba_l];omega)]
 clear h ht hu hm
 go_enter func221,ntmps221
 go_wp2_with fail
 go_loopw [5] (fun i wr=>∃k:Nat,k≤s.size∧i=.int .i64 k∧(∀c∈s.data.toList.take k,blk c=true)∧w=wr) (fun i _=>s.size - (intOf i).toNat)
 case atStart=>exact ⟨0,Nat.zero_le _,rfl,by simp,by first | rfl | trivial⟩
 case round =>
  obtain ⟨k,hk,rfl,hn,rfl⟩:=hrel;have hs:=HM.out
  by_cases hlt:k < s.size
  · obtain ⟨d,hd⟩:∃d,s[k]'hlt=d:=⟨_,rfl⟩
    have hda:∀h,s[k]'h=d:=fun _=>hd
    have hkl:k < s.data.toList.length:=by rw [ba_l];exact hlt
    have hdk:s.data.toList[k]'hkl=d:=(at_l s k hlt).trans hd;have bk:(0:Int)≤(k:Int)∧(k:Int) < (s.size:Int):=by omega
    have bk2:(0:Int)≤(k:Int)∧(k:Int)≤(s.size:Int):=by omega
    cases hg:blk d with
    | false =>
     have HD:=hI hg;obtain ⟨e1,e2⟩:=HEND.out k hk hn (fun _=>by rw [hdk];exact hg);clear hg hd hdk hn
     go_wp2_with (first
      | (go_at_call 223;(with_reducible refine (zPm d _ false HD.out).mono ?_);rintro e1 w1 ⟨rfl,rfl⟩)
      | fail)
     go_ret
     exact ⟨rfl,HR.out.set _,zBW _ _ _⟩
    | true =>
     have HD:=hI hg;have HV:=hI (zHc blk hkl hn (by rw [hdk];exact hg));clear hg hd hdk hn
     go_wp2_with (first
      | (go_at_call 223;(with_reducible refine (zPm d _ true HD.out).mono ?_);rintro e1 w1 ⟨rfl,rfl⟩)
      | fail)
     go_roundw
     case rel=>exact ⟨k+1,hlt,by go_num,HV.out,by first | rfl | trivial⟩
     case measure=>simp [intOf];omega
  · obtain rfl:k=s.size:=by omega
    obtain ⟨e1,e2⟩:=HEND.out s.size (Nat.le_refl _) hn (fun h=>by rw [ba_l] at h;omega);obtain rfl:s=t:=by rw [←e1];exact (ba_x (by rw [zAh s 0 s.size (Nat.le_refl _),List.drop_zero,Nat.sub_zero,List.take_of_length_le (by rw [ba_l];exact Nat.le_refl _)])).symm
    obtain rfl:ByteArray.empty=u:=by rw [←e2];exact (ba_x (by rw [zAh s s.size s.size (Nat.le_refl _),List.drop_of_length_le (by rw [ba_l];exact Nat.le_refl _),List.take_nil];rfl)).symm
    clear e1 e2;have bk2:(0:Int)≤(s.size:Int)∧(s.size:Int)≤(s.size:Int):=by omega
    clear hn
    go_wp2_with fail
    go_ret
    exact ⟨rfl,HR.out.set _,zBW _ _ _⟩
theorem zPY (b:Nat) (s u:ByteArray) (q:Bool) (w:World) (h:Rd b s w) (hm:s.size≤1000000) (hu:u.data.toList=s.data.toList.dropWhile blk) (hq:decide (s.size≠u.size)=q) :
 Calls prog 200 #[.pointer (some ⟨b,0,none⟩)] w fun e w'=>e=.returned (.bool q)∧Went b u w w':=by
 obtain ⟨t,ht⟩:∃t:ByteArray,t.data.toList=s.data.toList.takeWhile blk:=⟨⟨(s.data.toList.takeWhile blk).toArray⟩,by simp⟩;have HC:=hI (zIQ b s t u w h hm ht hu);have hl:=congrArg List.length (zAU blk s.data.toList).1;rw [List.length_append,←ht,←hu,ba_l,ba_l,ba_l] at hl
 have hem:t.toList.isEmpty= !q:=by
  rw [zE4,←hq]
  by_cases h0:t.size=0
  · rw [decide_eq_true h0,decide_eq_false (by omega)];rfl
  · rw [decide_eq_false h0,decide_eq_true (by omega)];rfl
 clear h hm hu hq ht hl
 cases q with
 | false =>
  go_enter func200,ntmps200
  go_wp2_with (first
   | (go_at_call 221;(with_reducible refine (HC.out).mono ?_);rintro e1 w1 ⟨rfl,hw1⟩)
   | fail)
  go_ret
  exact ⟨rfl,hw1⟩
 | true =>
  go_enter func200,ntmps200
  go_wp2_with (first
   | (go_at_call 221;(with_reducible refine (HC.out).mono ?_);rintro e1 w1 ⟨rfl,hw1⟩)
   | fail)
  go_ret
  exact ⟨rfl,hw1⟩
theorem zDQ (b:Nat) (s u:ByteArray) (w:World) (h:Rd b s w) (hm:s.size≤1000000) (hu:u.data.toList=s.data.toList.dropWhile blk) :
 Calls prog 200 #[.pointer (some ⟨b,0,none⟩)] w fun e w'=>(∃q,e=.returned (.bool q))∧Went b u w w' :=
 (zPY b s u _ w h hm hu rfl).mono fun e w' h=>⟨⟨_,h.1⟩,h.2⟩
theorem zC2 (b:Nat) (s t u:ByteArray) (w:World) (h:Rd b s w) (hm:s.size≤1000000) (ht:t.data.toList=s.data.toList.takeWhile wch) (hu:u.data.toList=s.data.toList.dropWhile wch) (hf:zAP t.data.toList=true) :
 Calls prog 199 #[.pointer (some ⟨b,0,none⟩)] w fun e w'=>e=.returned (.string t)∧Went b u w w':=by
 have HC:=hI (zFX b s t u w h hm ht hu);have hl:=congrArg List.length (zAU wch s.data.toList).1;rw [List.length_append,←ht,←hu,ba_l,ba_l,ba_l] at hl;have HT:Hid (t.size≤1000000):=hI (by omega);have HF:=hI hf;clear h hm hu ht hl hf
 go_enter func199,ntmps199
 go_wp2_with (first
  | (go_at_call 221;(with_reducible refine (HC.out).mono ?_);rintro e1 w1 ⟨rfl,hw1⟩;have HW1:=hI hw1;clear hw1)
  | (go_at_call 156;(with_reducible refine (zBY t _ HT.out true HF.out).mono ?_);rintro e2 w2 ⟨rfl,hb2⟩;have HW2:=hI (HW1.out.then hb2);clear hb2)
  | (go_at_call 87;(with_reducible refine (zBk t _ HT.out).mono ?_);rintro e3 w3 ⟨rfl,hb3⟩)
  | fail)
 go_ret
 exact ⟨rfl,HW2.out.then hb3⟩
theorem zJN (b:Nat) (s:ByteArray) (w:World) (h:Rd b s w) (hm:s.size≤1000000) (hf:zAP (s.data.toList.takeWhile wch)=false) :
 Calls prog 199 #[.pointer (some ⟨b,0,none⟩)] w fun e w'=>e=zAR 80∧∃u,Went b u w w':=by
 obtain ⟨t,ht⟩:∃t:ByteArray,t.data.toList=s.data.toList.takeWhile wch:=⟨⟨(s.data.toList.takeWhile wch).toArray⟩,by simp⟩;obtain ⟨u,hu⟩:∃u:ByteArray,u.data.toList=s.data.toList.dropWhile wch:=⟨⟨(s.data.toList.dropWhile wch).toArray⟩,by simp⟩;rw [←ht] at hf;have HC:=hI (zFX b s t u w h hm ht hu);have hl:=congrArg List.length (zAU wch s.data.toList).1;rw [List.length_append,←ht,←hu,ba_l,ba_l,ba_l] at hl;have HT:Hid (t.size≤1000000):=hI (by omega);have HF:=hI hf;unfold zAR;clear h hm hu ht hl hf
 go_enter func199,ntmps199
 go_wp2_with (first
  | (go_at_call 221;(with_reducible refine (HC.out).mono ?_);rintro e1 w1 ⟨rfl,hw1⟩;have HW1:=hI hw1;clear hw1)
  | (go_at_call 156;(with_reducible refine (zBY t _ HT.out false HF.out).mono ?_);rintro e2 w2 ⟨rfl,hb2⟩;have HW2:=hI (HW1.out.then hb2);clear hb2)
  | fail)
 exact ⟨rfl,rfl,_,HW2.out⟩
theorem zLe {s t:ByteArray} (hp:isP s.data.toList=true) (hs:s.size≤16384) (h:rd s.data.toList=some t.data.toList):getR s=(t,0):=by
 unfold getR;rw [if_neg (by unfold chkE;rw [if_neg (by omega),if_pos (show (pts s.data.toList).isSome=true from hp)];decide),h]
theorem zKk {s:ByteArray} (hp:isP s.data.toList=true) (hs:s.size≤16384) (h:rd s.data.toList=none):getR s=(⟨#[]⟩,80):=by
 unfold getR;rw [if_neg (by unfold chkE;rw [if_neg (by omega),if_pos (show (pts s.data.toList).isSome=true from hp)];decide),h]
theorem zEx (s t:ByteArray) (w:World) (hp:isP s.data.toList=true) (hs:s.size≤16384) (h:rd s.data.toList=some t.data.toList) (hE:Ev w) :
 Calls prog 175 #[.string s] w fun e w'=>e=.returned (.string t)∧Below w.heap.size w w':=by
 have HC:=hI (get8 s t 0 w (by omega) (zLe hp hs h) hE);clear hp hs h hE
 go_enter func175,ntmps175
 go_wp2_with (first
  | (go_at_call 204;(with_reducible refine (HC.out).mono ?_);rintro e1 w1 ⟨rfl,hb1⟩)
  | fail)
 go_ret
 exact ⟨rfl,hb1⟩
theorem zGK (s:ByteArray) (w:World) (hp:isP s.data.toList=true) (hs:s.size≤16384) (h:rd s.data.toList=none) (hE:Ev w) :
 Calls prog 175 #[.string s] w fun e w'=>e=zAR 80∧Below w.heap.size w w':=by
 have HC:=hI (get8 s ⟨#[]⟩ 80 w (by omega) (zKk hp hs h) hE);unfold zAR;clear hp hs h hE
 go_enter func175,ntmps175
 go_wp2_with (first
  | (go_at_call 204;(with_reducible refine (HC.out).mono ?_);rintro e1 w1 ⟨rfl,hb1⟩)
  | fail)
 exact ⟨rfl,rfl,hb1⟩
end Hx
namespace Hx
open Lx Tr Tx Nmb Es
def mayF (gn gv gw:Nat):Value:=.func (.func 112) #[] #[.pointer (some ⟨gn,0,none⟩),.pointer (some ⟨gv,0,none⟩),.pointer (some ⟨gw,0,none⟩)]
structure Nx (B gn gv gw:Nat) (A:Option Addr) (c:Nat) (v:List Nd) (p:Nat) (w:World):Prop where
 hn:w.heap[gn]?=some (.cells #[.int .i64 (p:Int)] 3 (0,0))
 hv:w.heap[gv]?=some (.cells #[.slice A v.length c] 22 (0,0))
 hw:w.heap[gw]?=some (.cells #[mayF gn gv gw] 142 (0,0))
 rd:RdS NdS w (fun b=>b < B) A v
 Bn:B≤gn
 nv:gv≠gn
 nw:gw≠gn
theorem zCc {w w':World} {b o:Nat} (h:w'.heap[b]?=w.heap[b]?):w'.cell? ⟨b,o,none⟩=w.cell? ⟨b,o,none⟩:=by simp [World.cell?,h]
theorem RdS.grown {α:Type} {C:CodS α} {w w':World} {B g:Nat} {A:Option Addr} {l:List α} (h:RdS C w (fun b=>b < B) A l) (hg:w.grownBy w' (some g)) (hB:B≤g) (hs:B≤w.heap.size):RdS C w' (fun b=>b < B) A l :=
 h.keep (fun _ hb=>hb) fun b o hb=>zCc (hg.block b (Nat.lt_of_lt_of_le hb hs) (fun e=>by injection e with e;omega))
theorem Nx.grown {B gn gv gw:Nat} {A:Option Addr} {c:Nat} {v:List Nd} {p p':Nat} {w w':World} (h:Nx B gn gv gw A c v p w) (hg:w.grownBy w' (some gn)) (hn:w'.heap[gn]?=some (.cells #[.int .i64 (p':Int)] 3 (0,0))):Nx B gn gv gw A c v p' w' :=
 ⟨hn,(hg.block gv (lt_of_block h.hv) (fun e=>by injection e with e;exact h.nv e)).trans h.hv,(hg.block gw (lt_of_block h.hw) (fun e=>by injection e with e;exact h.nw e)).trans h.hw,
  h.rd.grown hg h.Bn (Nat.le_of_lt (Nat.lt_of_le_of_lt h.Bn (lt_of_block h.hn))),h.Bn,h.nv,h.nw⟩
theorem Nx.below {B gn gv gw:Nat} {A:Option Addr} {c:Nat} {v:List Nd} {p:Nat} {w w':World} (h:Nx B gn gv gw A c v p w) (hb:Below w.heap.size w w'):Nx B gn gv gw A c v p w' :=
 h.grown (zBS hb _) ((hb.block gn (lt_of_block h.hn)).trans h.hn)
theorem Nx.set {B gn gv gw:Nat} {A:Option Addr} {c:Nat} {v:List Nd} {p:Nat} {w:World} (h:Nx B gn gv gw A c v p w) (p':Nat):Nx B gn gv gw A c v p' (w.setCell ⟨gn,0,none⟩ (.int .i64 (p':Int))) :=
 h.grown (zBW w gn _) (one_setCell h.hn)
theorem Nx.sz {B gn gv gw:Nat} {A:Option Addr} {c:Nat} {v:List Nd} {p:Nat} {w:World} (h:Nx B gn gv gw A c v p w):B≤w.heap.size:=Nat.le_of_lt (Nat.lt_of_le_of_lt h.Bn (lt_of_block h.hn))
def zBI (d:Nat) (v:List Nd) (p gn:Nat) (w:World) (e:Ending) (w':World):Prop:=w.grownBy w' (some gn)∧∃p':Nat,w'.heap[gn]?=some (.cells #[.int .i64 (p':Int)] 3 (0,0)) ∧
 ((∃r,zAE d (v.drop p)=some r∧e=.returned (.bool true)∧p'=v.length - r.length)∨(zAE d (v.drop p)=none∧e=.returned (.bool false)))
theorem zBI.no {d:Nat} {v:List Nd} {p p' gn:Nat} {w w':World} (h:zAE d (v.drop p)=none) (hg:w.grownBy w' (some gn)) (hn:w'.heap[gn]?=some (.cells #[.int .i64 (p':Int)] 3 (0,0))):zBI d v p gn w (.returned (.bool false)) w':=⟨hg,p',hn,.inr ⟨h,rfl⟩⟩
def zJw (d:Nat) (B gn gv gw:Nat) (A:Option Addr) (c:Nat) (v:List Nd):Prop:=∀(z:Int) (p:Nat) (w:World),z+d=13→p≤v.length→Nx B gn gv gw A c v p w →
 Calls prog 112 #[.int .i64 z,.pointer (some ⟨gn,0,none⟩),.pointer (some ⟨gv,0,none⟩),.pointer (some ⟨gw,0,none⟩)] w (zBI d v p gn w)
theorem zL8 (d:Nat) (B gn gv gw:Nat) (A:Option Addr) (c:Nat) (v:List Nd) (hd:d≤12) (hl:v.length≤512) (z:Int) (w:World) (hx:Nx B gn gv gw A c v v.length w) :
 Calls prog 112 #[.int .i64 z,.pointer (some ⟨gn,0,none⟩),.pointer (some ⟨gv,0,none⟩),.pointer (some ⟨gw,0,none⟩)] w (zBI d v v.length gn w):=by
 have HW:Hid (zBI d v v.length gn w (.returned (.bool false)) w):=hI (zBI.no (by rw [List.drop_of_length_le (Nat.le_refl _)];cases d <;> rfl) (World.grownBy.refl _ _) hx.hn);obtain ⟨n,hn⟩:∃n,v.length=n:=⟨_,rfl⟩;have kn:=cell_of_one hx.hn;have fn:=free_of_one hx.hn;have kv:=cell_of_one hx.hv;rw [hn] at kn kv HW ⊢;clear hx hl hn
 go_enter func112,ntmps112
 go_wp2_with fail
 go_ret
 exact HW.out
theorem zMC (d:Nat) (B gn gv gw:Nat) (A:Option Addr) (c:Nat) (v:List Nd) (hd:d≤12) (hl:v.length≤512) (z:Int) (p:Nat) (hp:p < v.length) (hs:zAW (v[p]'hp)) (hh:zCR (v[p]'hp)=false) (w:World) (hx:Nx B gn gv gw A c v p w) :
 Calls prog 112 #[.int .i64 z,.pointer (some ⟨gn,0,none⟩),.pointer (some ⟨gv,0,none⟩),.pointer (some ⟨gw,0,none⟩)] w (zBI d v p gn w):=by
 obtain ⟨b0,off,x,y,t,A1,c1,hA,hbB,hin,q0,q1,q2,q3,q4,q5⟩:=zCL hx.rd hp;obtain ⟨nd,hnd⟩:∃nd,v[p]'hp=nd:=⟨_,rfl⟩;rw [hnd] at hin q0 q3 q5 hs;have hAt:NdAt nd x y t A1 c1 w:=hin.keep (fun b hb=>Nat.lt_of_lt_of_le hb hx.sz) fun _ _ _=>rfl
 have HX:=hI hx;have HPL:Hid (p < v.length):=hI hp;have bk:(0:Int)≤(p:Int)∧(p:Int) < (v.length:Int):=by omega
 have f0:((p:Int)==(v.length:Int))=false:=by simp;omega
 have bl:(v.length:Int)≤512:=by omega
 obtain ⟨n,hn⟩:∃n,v.length=n:=⟨_,rfl⟩;have HLN:=hI hn;have kn:=cell_of_one hx.hn;have fn:=free_of_one hx.hn;have kv:=cell_of_one hx.hv;have HW:Hid (∀w1,Below w.heap.size w w1→zBI d v p gn w (.returned (.bool false)) w1):=hI fun w1 hb=>zBI.no (by rw [zEb hp,if_neg (by rw [hh];rintro ⟨h,_⟩;cases h)]) (zBS hb _) (hx.below hb).hn
 rw [hnd] at hh;have HC:=hI (zJY nd x y t A1 c1 w hAt hs false hh);unfold NdV at HC;subst hA;rw [hn] at kv f0 bk;clear hx hl hin hAt hs hh hnd hbB hp hn
 go_enter func112,ntmps112
 go_wp2_with (first
  | (go_at_call 113;(with_reducible refine (HC.out).mono ?_);rintro e1 w1 ⟨rfl,hb1⟩;skip)
  | fail)
 go_ret
 exact HW.out w1 hb1
theorem zId {B gn gv gw:Nat} {A:Option Addr} {c:Nat} {v:List Nd} {p:Nat} {w w1:World} (hx:Nx B gn gv gw A c v p w) (hb:Below w.heap.size w w1) (cs:Array Value) (T:TypeId) (V:World) (hV:(w1.setCell ⟨gn,0,none⟩ (.int .i64 ((p:Int)+1))).alloc (.cells cs T)=V) :
 Nx B gn gv gw A c v (p+1) V∧w.grownBy V (some gn)∧V.heap[w1.heap.size]?=some (.cells cs T (0,0)):=by
 have h1:=(hx.below hb).set (p+1);have e:((p+1:Nat):Int)=(p:Int)+1:=by omega
 rw [e] at h1;have h2:=h1.below (stpA (Below.refl _ _) (.cells cs T));rw [hV] at h2;refine ⟨h2,?_,?_⟩
 · rw [←hV]
   exact ((zBS hb _).trans (zBW w1 gn _)).trans (World.grownBy_alloc _ _ _)
 · rw [←hV]
   have:=heap_alloc_new (w1.setCell ⟨gn,0,none⟩ (.int .i64 ((p:Int)+1))) (.cells cs T)
   rwa [World.size_setCell] at this
theorem zPC (B gn gv gw:Nat) (A:Option Addr) (c:Nat) (v:List Nd) (hl:v.length≤512) (p:Nat) (hp:p < v.length) (hs:zAW (v[p]'hp)) (hh:zCR (v[p]'hp)=true) (hk:(v[p]'hp).kind=1) (w:World) (hx:Nx B gn gv gw A c v p w) :
 Calls prog 112 #[.int .i64 13,.pointer (some ⟨gn,0,none⟩),.pointer (some ⟨gv,0,none⟩),.pointer (some ⟨gw,0,none⟩)] w (zBI 0 v p gn w):=by
 obtain ⟨b0,off,x,y,t,A1,c1,hA,hbB,hin,q0,q1,q2,q3,q4,q5⟩:=zCL hx.rd hp;obtain ⟨nd,hnd⟩:∃nd,v[p]'hp=nd:=⟨_,rfl⟩;rw [hnd] at hin q0 q3 q5 hs;have hAt:NdAt nd x y t A1 c1 w:=hin.keep (fun b hb=>Nat.lt_of_lt_of_le hb hx.sz) fun _ _ _=>rfl
 have HX:=hI hx;have HPL:Hid (p < v.length):=hI hp;have bk:(0:Int)≤(p:Int)∧(p:Int) < (v.length:Int):=by omega
 have f0:((p:Int)==(v.length:Int))=false:=by simp;omega
 have bl:(v.length:Int)≤512:=by omega
 obtain ⟨n,hn⟩:∃n,v.length=n:=⟨_,rfl⟩;have HLN:=hI hn;have kn:=cell_of_one hx.hn;have fn:=free_of_one hx.hn;have kv:=cell_of_one hx.hv;have HW:Hid (∀V p',Nx B gn gv gw A c v p' V→w.grownBy V (some gn)→zBI 0 v p gn w (.returned (.bool false)) V):=hI fun V p' h1 h2=>zBI.no (by rw [zEb hp,if_neg (by rintro ⟨_,h⟩;exact h ⟨hk,rfl⟩)]) h2 h1.hn
 rw [hnd] at hh hk;have HC:=hI (zJY nd x y t A1 c1 w hAt hs true hh);unfold NdV at HC;obtain ⟨kd,hkd⟩:∃kd,nd.kind=kd:=⟨_,rfl⟩;obtain ⟨mm,hmm⟩:∃mm,nd.many=mm:=⟨_,rfl⟩;obtain ⟨n2,hn2⟩:∃n2,nd.attrs.length=n2:=⟨_,rfl⟩;have HBS:Hid (b0 < w.heap.size):=hI (Nat.lt_of_lt_of_le hbB hx.sz);have ba:=hin.lo;have bb:=hin.hi;subst hA;rw [hn] at kv f0 bk bl;rw [hkd,hmm,hn2] at HC;rw [hkd] at q0;rw [hmm] at q5 ba bb;rw [hn2] at q3;obtain rfl:1=kd:=by rw [←hkd,hk]
 rw [show ((1:Nat):Int)=1 from rfl] at HC q0;clear hx hl hin hAt hs hh hnd hbB hp hn hkd hmm hn2 hk
 go_enter func112,ntmps112
 go_wp2_with (first
  | (go_at_call 113;(with_reducible refine (HC.out).mono ?_);rintro e1 w1 ⟨rfl,hb1⟩;have HB1:=hI hb1;have HN1:=hI (HX.out.below hb1);have kn1:=cell_of_one HN1.out.hn;have fn1:=free_of_one HN1.out.hn;have kv1:=cell_of_one HN1.out.hv;have hq1:=fun o=>(hb1.cell (p:=⟨b0,o,none⟩) HBS.out);have s0:=(hq1 _).trans q0;have s1:=(hq1 _).trans q1;have s2:=(hq1 _).trans q2;have s3:=(hq1 _).trans q3;have s4:=(hq1 _).trans q4;have s5:=(hq1 _).trans q5;have hgl:gn < w1.heap.size:=lt_of_block HN1.out.hn;clear hq1 hb1)
  | fail)
 go_ret
 obtain ⟨g1,g2,_⟩:=zId HX.out HB1.out _ _ _ rfl;exact HW.out _ _ g1 g2
theorem zBI.none {d:Nat} {v:List Nd} {p gn:Nat} {w:World} {e:Ending} {w':World} (h:zBI d v p gn w e w') (hr:zAE d (v.drop p)=none):e=.returned (.bool false)∧w.grownBy w' (some gn)∧∃p':Nat,w'.heap[gn]?=some (.cells #[.int .i64 (p':Int)] 3 (0,0)):=by
 obtain ⟨h1,p',h2,⟨r,h3,_⟩ | ⟨_,h3⟩⟩:=h
 · rw [hr] at h3;cases h3
 · exact ⟨h3,h1,p',h2⟩
theorem zBI.some {d:Nat} {v r:List Nd} {p gn:Nat} {w:World} {e:Ending} {w':World} (h:zBI d v p gn w e w') (hr:zAE d (v.drop p)=some r):e=.returned (.bool true)∧w.grownBy w' (some gn)∧w'.heap[gn]?=some (.cells #[.int .i64 ((v.length - r.length:Nat):Int)] 3 (0,0)):=by
 obtain ⟨h1,p',h2,⟨r',h3,h4,h5⟩ | ⟨h3,_⟩⟩:=h
 · rw [hr] at h3
   obtain rfl:=Option.some.inj h3;exact ⟨h4,h1,by rw [h5] at h2;exact h2⟩
 · rw [hr] at h3;cases h3
theorem zQ6 (d:Nat) (B gn gv gw:Nat) (A:Option Addr) (c:Nat) (v:List Nd) (hd:d≤12) (hl:v.length≤512) (hh0:0 < d) (ih:0 < d→zJw (d - 1) B gn gv gw A c v) (z:Int) (hz:z+d=13) (p:Nat) (hp:p < v.length) (hs:zAW (v[p]'hp)) (hh:zCR (v[p]'hp)=true) (hk:(v[p]'hp).kind=1) (w:World) (hx:Nx B gn gv gw A c v p w) :
 Calls prog 112 #[.int .i64 z,.pointer (some ⟨gn,0,none⟩),.pointer (some ⟨gv,0,none⟩),.pointer (some ⟨gw,0,none⟩)] w (zBI d v p gn w):=by
 obtain ⟨b0,off,x,y,t,A1,c1,hA,hbB,hin,q0,q1,q2,q3,q4,q5⟩:=zCL hx.rd hp;obtain ⟨nd,hnd⟩:∃nd,v[p]'hp=nd:=⟨_,rfl⟩;rw [hnd] at hin q0 q3 q5 hs;have hAt:NdAt nd x y t A1 c1 w:=hin.keep (fun b hb=>Nat.lt_of_lt_of_le hb hx.sz) fun _ _ _=>rfl
 have HX:=hI hx;have HPL:Hid (p < v.length):=hI hp;have bk:(0:Int)≤(p:Int)∧(p:Int) < (v.length:Int):=by omega
 have f0:((p:Int)==(v.length:Int))=false:=by simp;omega
 have bl:(v.length:Int)≤512:=by omega
 obtain ⟨n,hn⟩:∃n,v.length=n:=⟨_,rfl⟩;have HLN:=hI hn;have kn:=cell_of_one hx.hn;have fn:=free_of_one hx.hn;have kv:=cell_of_one hx.hv;have HRE:Hid (zAE d (v.drop p)=(zAG (zAE (d - 1)) nd.many.toNat false (v.drop (p+1))).map (·.2)):=hI (by rw [zEb hp,if_pos ⟨hh,by omega⟩,hnd]);rw [hnd] at hh hk;have hm0:0≤nd.many:=by unfold zCR at hh;simp at hh;exact hh.2
 have HC:=hI (zJY nd x y t A1 c1 w hAt hs true hh);unfold NdV at HC;obtain ⟨kd,hkd⟩:∃kd,nd.kind=kd:=⟨_,rfl⟩;obtain ⟨mm,hmm⟩:∃mm,nd.many=mm:=⟨_,rfl⟩;obtain ⟨n2,hn2⟩:∃n2,nd.attrs.length=n2:=⟨_,rfl⟩;have HBS:Hid (b0 < w.heap.size):=hI (Nat.lt_of_lt_of_le hbB hx.sz);have ba:=hin.lo;have bb:=hin.hi;subst hA;rw [hn] at kv f0 bk bl;rw [hkd,hmm,hn2] at HC;rw [hkd] at q0;rw [hmm] at q5 ba bb;rw [hn2] at q3;rw [hmm] at HRE hm0;have HYES:Hid (∀(V:World) (l':List Nd) (p':Nat) (b:Bool),zAG (zAE (d - 1)) mm.toNat false (v.drop (p+1))=some (b,l')→w.grownBy V (some gn)→V.heap[gn]?=some (.cells #[.int .i64 (p':Int)] 3 (0,0))→p'=v.length - l'.length→zBI d v p gn w (.returned (.bool true)) V):=hI fun V l' p' b h1 h2 h3 h4=>⟨h2,p',h3,.inl ⟨l',by rw [HRE.out,h1];rfl,rfl,h4⟩⟩
 have HNO:Hid (∀(V:World) (p':Nat),zAG (zAE (d - 1)) mm.toNat false (v.drop (p+1))=none→w.grownBy V (some gn)→V.heap[gn]?=some (.cells #[.int .i64 (p':Int)] 3 (0,0))→zBI d v p gn w (.returned (.bool false)) V):=hI fun V p' h1 h2 h3=>zBI.no (by rw [HRE.out,h1];rfl) h2 h3
 have HZ:=hI hz;have HIH:=hI ih;obtain rfl:1=kd:=by rw [←hkd,hk]
 rw [show ((1:Nat):Int)=1 from rfl] at HC q0;have fz:decide ((12:Int) < z)=false:=decide_eq_false (by omega);have HD0:=hI hh0;have bz:(1:Int)≤z∧z≤12:=by omega
 clear hx hl hin hAt hs hh hnd hbB hp hn hkd hmm hn2 hk hz ih hh0 hd
 go_enter func112,ntmps112
 go_wp2_with (first
  | (go_at_call 113;(with_reducible refine (HC.out).mono ?_);rintro e1 w1 ⟨rfl,hb1⟩;have HB1:=hI hb1;have HN1:=hI (HX.out.below hb1);have kn1:=cell_of_one HN1.out.hn;have fn1:=free_of_one HN1.out.hn;have kv1:=cell_of_one HN1.out.hv;have hq1:=fun o=>(hb1.cell (p:=⟨b0,o,none⟩) HBS.out);have s0:=(hq1 _).trans q0;have s1:=(hq1 _).trans q1;have s2:=(hq1 _).trans q2;have s3:=(hq1 _).trans q3;have s4:=(hq1 _).trans q4;have s5:=(hq1 _).trans q5;have hgl:gn < w1.heap.size:=lt_of_block HN1.out.hn;clear hq1 hb1)
  | fail)
 go_loopg [7,36] n (fun gg x7 i wr=>∃(j:Nat) (b:Bool) (p':Nat),j+gg=n∧(j:Int)≤mm∧i=.int .i64 j∧x7=.bool b∧zAG (zAE (d - 1)) j false (v.drop (p+1))=some (b,v.drop p')∧p'≤n∧Nx B gn gv gw (some ⟨b0,off,none⟩) c v p' wr∧w.grownBy wr (some gn))
 case atStart =>
  obtain ⟨g1,g2,_⟩:=zId HX.out HB1.out _ _ _ rfl;exact ⟨0,false,p+1,by omega,hm0,rfl,rfl,by rw [zAG],by have:=HPL.out;rw [HLN.out] at this;omega,g1,g2⟩
 case round =>
  obtain ⟨j,b,p',hjg,hjm,rfl,rfl,hkd,hpn,hnx,hgr⟩:=hrel;have HNX:=hI hnx;have HGR:=hI hgr;have HKD:=hI hkd;clear kn1 fn1 kv1 s0 s1 s2 s3 s4 s5
  by_cases hlt:(j:Int) < mm
  · have kn2:=cell_of_one hnx.hn
    have kv2:=cell_of_one hnx.hv;have kw2:=cell_of_one hnx.hw;have HNXT:Hid _:=hI (zHd hkd (m:=mm.toNat) (by omega));have hcall:=HIH.out HD0.out (z+1) p' wr (by have:=HZ.out;have:=HD0.out;omega) (by rw [HLN.out];exact hpn) hnx;have HCALL:=hI hcall;rw [HLN.out] at kv2;unfold mayF at kw2
    by_cases hpe:n≤p'
    · have hno:zAE (d - 1) (v.drop p')=none:=by rw [List.drop_of_length_le (by rw [HLN.out];exact hpe)];cases d - 1 <;> rfl
      have HF:=hI (HNXT.out.1 (by rw [HLN.out];exact hpe));have HNO2:=hI hno;have f5:decide ((p':Int) < (n:Int))=false:=decide_eq_false (by omega);clear hcall hno hkd hnx hgr HNXT
      go_wp2_with (first
       | (go_at_call 112;(with_reducible refine (HCALL.out).mono ?_);rintro e2 w2 hwk;obtain ⟨rfl,hg2,p2,hn2⟩:=hwk.none HNO2.out)
       | fail)
      go_ret
      exact HNO.out w2 p2 HF.out (HGR.out.trans hg2) hn2
    · have hp2:p' < v.length:=by rw [HLN.out];omega
      obtain ⟨bb',off',x',y',t',A1',c1',hA',_,hin',u0,_,_,_,_,_⟩:=zCL hnx.rd hp2;injection hA' with hA';injection hA' with ha1 ha2 _;subst ha1 ha2;obtain ⟨k2,hk2⟩:∃k2,(v[p']'hp2).kind=k2:=⟨_,rfl⟩;rw [hk2] at u0;have HN2:=hI (HNXT.out.2 hp2);rw [hk2] at HN2;have f5:decide ((p':Int) < (n:Int))=true:=decide_eq_true (by rw [←HLN.out];omega);have bp:(0:Int)≤(p':Int)∧(p':Int) < (n:Int):=by rw [←HLN.out];omega
      obtain ⟨tt,htt⟩:∃tt,((k2:Int)==2)=tt:=⟨_,rfl⟩;have HTT:Hid (decide (k2=2)=tt):=hI (by rw [←htt,Bool.eq_iff_iff];simp;omega);have HT2:Hid (tt=true↔k2=2):=hI (by rw [←HTT.out];simp);clear hcall hkd hnx hgr HNXT hk2 hin';have stop:∀(W:World),zAG (zAE (d - 1)) mm.toNat false (v.drop (p+1))=none→W=wr→zBI d v p gn w (.returned (.bool false)) wr:=fun W h _=>HNO.out wr p' h HGR.out HNX.out.hn
      have HSTOP:=hI stop;clear stop
      by_cases hboth:b=true∧tt=true
      · obtain ⟨rfl,rfl⟩:=hboth
        have HF:=hI (HN2.out.1 ⟨rfl,HT2.out.1 rfl⟩)
        go_wp2_with fail
        go_ret
        exact HSTOP.out wr HF.out rfl
      · have HB3:Hid (¬(b=true∧k2=2)):=hI fun h=>hboth ⟨h.1,HT2.out.2 h.2⟩
        have hbt:(b=false∧tt=false)∨(b=false∧tt=true)∨(b=true∧tt=false):=by
         cases b <;> cases tt <;> simp_all
        clear hboth
        cases hr:zAE (d - 1) (v.drop p') with
        | none =>
         have HR2:=hI hr;have HF:=hI (HN2.out.2.1 hr);clear hr;rcases hbt with ⟨rfl,rfl⟩ | ⟨rfl,rfl⟩ | ⟨rfl,rfl⟩
         all_goals
          go_wp2_with (first
           | (go_at_call 112;(with_reducible refine (HCALL.out).mono ?_);rintro e2 w2 hwk;obtain ⟨rfl,hg2,p2,hn2⟩:=hwk.none HR2.out)
           | fail)
          go_ret
          exact HNO.out w2 p2 HF.out (HGR.out.trans hg2) hn2
        | some r =>
         have HR2:=hI hr;have hnxt:=HN2.out.2.2 r HB3.out hr;have hsuf:=zD7 hr;have hlr:=zEs hr;rw [List.length_drop] at hsuf hlr;have hlen:=zDU hnxt;rw [List.length_drop] at hlen;rw [List.drop_drop,show p'+(v.length - p' - r.length)=v.length - r.length by omega] at hsuf;obtain ⟨p3,hp3⟩:∃p3,v.length - r.length=p3:=⟨_,rfl⟩;rw [hp3] at hsuf;have HNXT2:Hid (zAG (zAE (d - 1)) (j+1) false (v.drop (p+1))=some (tt,v.drop p3)):=hI (by rw [hnxt,HTT.out,←hsuf]);have HP3:=hI hp3;have HJ:Hid (j+1≤n∧p3≤n):=hI (by have:=HLN.out;omega);clear hr hnxt hsuf hlr hlen hp3;rcases hbt with ⟨rfl,rfl⟩ | ⟨rfl,rfl⟩ | ⟨rfl,rfl⟩
         all_goals
          go_wp2_with (first
           | (go_at_call 112;(with_reducible refine (HCALL.out).mono ?_);rintro e2 w2 hwk;obtain ⟨rfl,hg2,hn2⟩:=hwk.some HR2.out;rw [HP3.out] at hn2;have HG2:=hI hg2;have HN9:=hI hn2;clear hg2 hn2 hwk)
           | fail)
          go_roundg (gk - 1)
          case rel=>exact ⟨j+1,_,p3,by have:=HJ.out;omega,by omega,by go_num,rfl,HNXT2.out,HJ.out.2,HNX.out.grown HG2.out HN9.out,HGR.out.trans HG2.out⟩
          case measure=>have:=HJ.out;omega
  · have hje:mm.toNat=j:=by omega
    have HY:=hI (HYES.out wr (v.drop p') p' b (by rw [hje];exact hkd) hgr hnx.hn (by rw [List.length_drop,HLN.out];omega));clear hkd hnx hgr hje
    go_wp2_with fail
    go_ret
    exact HY.out
theorem zLo (d:Nat) (B gn gv gw:Nat) (A:Option Addr) (c:Nat) (v:List Nd) (hd:d≤12) (hl:v.length≤512) (hh0:True) (ih:0 < d→zJw (d - 1) B gn gv gw A c v) (z:Int) (hz:z+d=13) (p:Nat) (hp:p < v.length) (hs:zAW (v[p]'hp)) (hh:zCR (v[p]'hp)=true) (hk:(v[p]'hp).kind=2) (w:World) (hx:Nx B gn gv gw A c v p w) :
 Calls prog 112 #[.int .i64 z,.pointer (some ⟨gn,0,none⟩),.pointer (some ⟨gv,0,none⟩),.pointer (some ⟨gw,0,none⟩)] w (zBI d v p gn w):=by
 obtain ⟨b0,off,x,y,t,A1,c1,hA,hbB,hin,q0,q1,q2,q3,q4,q5⟩:=zCL hx.rd hp;obtain ⟨nd,hnd⟩:∃nd,v[p]'hp=nd:=⟨_,rfl⟩;rw [hnd] at hin q0 q3 q5 hs;have hAt:NdAt nd x y t A1 c1 w:=hin.keep (fun b hb=>Nat.lt_of_lt_of_le hb hx.sz) fun _ _ _=>rfl
 have HX:=hI hx;have HPL:Hid (p < v.length):=hI hp;have bk:(0:Int)≤(p:Int)∧(p:Int) < (v.length:Int):=by omega
 have f0:((p:Int)==(v.length:Int))=false:=by simp;omega
 have bl:(v.length:Int)≤512:=by omega
 obtain ⟨n,hn⟩:∃n,v.length=n:=⟨_,rfl⟩;have HLN:=hI hn;have kn:=cell_of_one hx.hn;have fn:=free_of_one hx.hn;have kv:=cell_of_one hx.hv;have HRE:Hid (zAE d (v.drop p)=(zAG (zAE (d - 1)) nd.many.toNat false (v.drop (p+1))).map (·.2)):=hI (by rw [zEb hp,if_pos ⟨hh,by omega⟩,hnd]);rw [hnd] at hh hk;have hm0:0≤nd.many:=by unfold zCR at hh;simp at hh;exact hh.2
 have HC:=hI (zJY nd x y t A1 c1 w hAt hs true hh);unfold NdV at HC;obtain ⟨kd,hkd⟩:∃kd,nd.kind=kd:=⟨_,rfl⟩;obtain ⟨mm,hmm⟩:∃mm,nd.many=mm:=⟨_,rfl⟩;obtain ⟨n2,hn2⟩:∃n2,nd.attrs.length=n2:=⟨_,rfl⟩;have HBS:Hid (b0 < w.heap.size):=hI (Nat.lt_of_lt_of_le hbB hx.sz);have ba:=hin.lo;have bb:=hin.hi;subst hA;rw [hn] at kv f0 bk bl;rw [hkd,hmm,hn2] at HC;rw [hkd] at q0;rw [hmm] at q5 ba bb;rw [hn2] at q3;have hm2:nd.many=0:=(zA6 (by unfold zCR at hh;simp at hh;exact hh.1) hk).1;rw [hmm] at HRE hm0;have HYES:Hid (∀(V:World) (l':List Nd) (p':Nat) (b:Bool),zAG (zAE (d - 1)) mm.toNat false (v.drop (p+1))=some (b,l')→w.grownBy V (some gn)→V.heap[gn]?=some (.cells #[.int .i64 (p':Int)] 3 (0,0))→p'=v.length - l'.length→zBI d v p gn w (.returned (.bool true)) V):=hI fun V l' p' b h1 h2 h3 h4=>⟨h2,p',h3,.inl ⟨l',by rw [HRE.out,h1];rfl,rfl,h4⟩⟩
 have HNO:Hid (∀(V:World) (p':Nat),zAG (zAE (d - 1)) mm.toNat false (v.drop (p+1))=none→w.grownBy V (some gn)→V.heap[gn]?=some (.cells #[.int .i64 (p':Int)] 3 (0,0))→zBI d v p gn w (.returned (.bool false)) V):=hI fun V p' h1 h2 h3=>zBI.no (by rw [HRE.out,h1];rfl) h2 h3
 have HZ:=hI hz;have HIH:=hI ih;obtain rfl:2=kd:=by rw [←hkd,hk]
 rw [show ((2:Nat):Int)=2 from rfl] at HC q0;have HM2:Hid (mm=0):=hI (by rw [←hmm];exact hm2);clear hm2;clear hx hl hin hAt hs hh hnd hbB hp hn hkd hmm hn2 hk hz ih hh0 hd
 go_enter func112,ntmps112
 go_wp2_with (first
  | (go_at_call 113;(with_reducible refine (HC.out).mono ?_);rintro e1 w1 ⟨rfl,hb1⟩;have HB1:=hI hb1;have HN1:=hI (HX.out.below hb1);have kn1:=cell_of_one HN1.out.hn;have fn1:=free_of_one HN1.out.hn;have kv1:=cell_of_one HN1.out.hv;have hq1:=fun o=>(hb1.cell (p:=⟨b0,o,none⟩) HBS.out);have s0:=(hq1 _).trans q0;have s1:=(hq1 _).trans q1;have s2:=(hq1 _).trans q2;have s3:=(hq1 _).trans q3;have s4:=(hq1 _).trans q4;have s5:=(hq1 _).trans q5;have hgl:gn < w1.heap.size:=lt_of_block HN1.out.hn;clear hq1 hb1)
  | fail)
 go_loopg [7,36] n (fun gg x7 i wr=>∃(j:Nat) (b:Bool) (p':Nat),j+gg=n∧(j:Int)≤mm∧i=.int .i64 j∧x7=.bool b∧zAG (zAE (d - 1)) j false (v.drop (p+1))=some (b,v.drop p')∧p'≤n∧Nx B gn gv gw (some ⟨b0,off,none⟩) c v p' wr∧w.grownBy wr (some gn))
 case atStart =>
  obtain ⟨g1,g2,_⟩:=zId HX.out HB1.out _ _ _ rfl;exact ⟨0,false,p+1,by omega,hm0,rfl,rfl,by rw [zAG],by have:=HPL.out;rw [HLN.out] at this;omega,g1,g2⟩
 case round =>
  obtain ⟨j,b,p',hjg,hjm,rfl,rfl,hkd,hpn,hnx,hgr⟩:=hrel;have HNX:=hI hnx;have HGR:=hI hgr;have HKD:=hI hkd;clear kn1 fn1 kv1 s0 s1 s2 s3 s4 s5
  by_cases hlt:(j:Int) < mm
  · have:=HM2.out
    omega
  · have hje:mm.toNat=j:=by omega
    have HY:=hI (HYES.out wr (v.drop p') p' b (by rw [hje];exact hkd) hgr hnx.hn (by rw [List.length_drop,HLN.out];omega));clear hkd hnx hgr hje
    go_wp2_with fail
    go_ret
    exact HY.out
theorem zLm (B gn gv gw:Nat) (A:Option Addr) (c:Nat) (v:List Nd) (hl:v.length≤512) (hsm:∀n∈v,zAW n):∀d,d≤12→zJw d B gn gv gw A c v:=by
 intro d
 induction d with
 | zero =>
  intro _ z p w hz hp hx;obtain rfl:z=13:=by omega
  by_cases hpl:p < v.length
  · have hs:=hsm _ (List.getElem_mem hpl)
    cases hh:zCR (v[p]'hpl) with
    | false=>exact zMC 0 B gn gv gw A c v (by omega) hl 13 p hpl hs hh w hx
    | true =>
     by_cases hk:(v[p]'hpl).kind=1
     · exact zPC B gn gv gw A c v hl p hpl hs hh hk w hx
     · have hk2:(v[p]'hpl).kind=2:=(zBX (by unfold zCR at hh;simp at hh;exact hh.1)).resolve_left hk
       exact zLo 0 B gn gv gw A c v (by omega) hl trivial (fun h=>by omega) 13 (by omega) p hpl hs hh hk2 w hx
  · obtain rfl:p=v.length:=by omega
    exact zL8 0 B gn gv gw A c v (by omega) hl 13 w hx
 | succ d ih =>
  intro hd z p w hz hp hx
  by_cases hpl:p < v.length
  · have hs:=hsm _ (List.getElem_mem hpl)
    cases hh:zCR (v[p]'hpl) with
    | false=>exact zMC (d+1) B gn gv gw A c v hd hl z p hpl hs hh w hx
    | true =>
     have ih':0 < d+1→zJw (d+1 - 1) B gn gv gw A c v:=fun _=>ih (by omega)
     by_cases hk:(v[p]'hpl).kind=1
     · exact zQ6 (d+1) B gn gv gw A c v hd hl (by omega) ih' z hz p hpl hs hh hk w hx
     · have hk2:(v[p]'hpl).kind=2:=(zBX (by unfold zCR at hh;simp at hh;exact hh.1)).resolve_left hk
       exact zLo (d+1) B gn gv gw A c v hd hl trivial ih' z hz p hpl hs hh hk2 w hx
  · obtain rfl:p=v.length:=by omega
    exact zL8 (d+1) B gn gv gw A c v hd hl z w hx
theorem zL5 {w:World} {A:Option Addr} {c:Nat} {v:List Nd} (hr:RdB NdS w A v) :
 Nx w.heap.size (w.heap.size+1) w.heap.size (w.heap.size+1+1) A c v 0 (((w.alloc (.cells #[.slice A v.length c] 22)).alloc (.cells #[.int .i64 0] 3)).alloc (.cells #[mayF (w.heap.size+1) w.heap.size (w.heap.size+1+1)] 142)):=by
 have h0:=heap_alloc_new w (.cells #[.slice A v.length c] 22);have h1:=heap_alloc_new (w.alloc (.cells #[.slice A v.length c] 22)) (.cells #[.int .i64 0] 3);rw [World.size_alloc] at h1;have h2:=heap_alloc_new ((w.alloc (.cells #[.slice A v.length c] 22)).alloc (.cells #[.int .i64 0] 3)) (.cells #[mayF (w.heap.size+1) w.heap.size (w.heap.size+1+1)] 142);rw [World.size_alloc,World.size_alloc] at h2;refine ⟨zAB h1 (stpA (Below.refl _ _) _),zAB (zAB h0 (stpA (Below.refl _ _) _)) (stpA (Below.refl _ _) _),h2,?_,by omega,by omega,by omega⟩;exact hr.keep (fun _ hb=>hb) fun b o hb=>(stpA (stpA (stpA (Below.refl w.heap.size w) _) _) _).cell (p:=⟨b,o,none⟩) hb
theorem zOS (A:Option Addr) (c:Nat) (w:World):Calls prog 76 #[.slice A 0 c] w fun e w'=>e=.returned (.bool false)∧Below w.heap.size w w':=by
 go_enter func76,ntmps76
 go_wp2_with fail
 go_ret
 exact ⟨rfl,(Below.refl _ _).alloc (Nat.le_refl _) _⟩
theorem zO6 (A:Option Addr) (n c:Nat) (w:World) (hn:512 < n):Calls prog 76 #[.slice A n c] w fun e w'=>e=.returned (.bool false)∧Below w.heap.size w w':=by
 have f0:((n:Int)==0)=false:=by simp;omega
 have f1:decide ((512:Int) < (n:Int))=true:=decide_eq_true (by omega)
 go_enter func76,ntmps76
 go_wp2_with fail
 go_ret
 exact ⟨rfl,(Below.refl _ _).alloc (Nat.le_refl _) _⟩
theorem zN3 (A:Option Addr) (n c:Nat) (v:List Nd) (w:World) (hr:RdB NdS w A v) (hn:v.length=n) (h0:0 < n) (h5:n≤512) (hk:(v[0]'(by omega)).kind≠1):Calls prog 76 #[.slice A n c] w fun e w'=>e=.returned (.bool false)∧Below w.heap.size w w':=by
 obtain ⟨b0,off,x,y,t,A1,c1,hA,hbB,hin,q0,-⟩:=zCL hr (k:=0) (by omega);have f0:((n:Int)==0)=false:=by simp;omega
 have f1:decide ((512:Int) < (n:Int))=false:=decide_eq_false (by omega);have bn:(0:Int) < (n:Int)∧(n:Int)≤512:=by omega
 rw [Nat.zero_mul,Nat.add_zero] at q0;obtain ⟨kd,hkd⟩:∃kd,(v[0]'(by omega)).kind=kd:=⟨_,rfl⟩;rw [hkd] at q0;have f2:((kd:Int) != 1)=true:=by simp;omega
 have f3:((kd:Int)==1)=false:=by simp;omega
 subst hA;clear hr hn hin hk hkd
 go_enter func76,ntmps76
 go_wp2_with fail
 go_ret
 exact ⟨rfl,(Below.refl _ _).alloc (Nat.le_refl _) _⟩
theorem zPw (A:Option Addr) (n c:Nat) (v:List Nd) (w:World) (hr:RdB NdS w A v) (hn:v.length=n) (hsm:∀n∈v,zAW n) (h0:0 < n) (h5:n≤512) (hk:(v[0]'(by omega)).kind=1) (r:List Nd) (hrr:zAE 12 v=some r) (q:Bool) (hq:mayV v=q):Calls prog 76 #[.slice A n c] w fun e w'=>e=.returned (.bool q)∧Below w.heap.size w w':=by
 have hmf:∀(fn:Fn) (first cap:Array Value) (w:World),(Instr.makeFunc fn first cap).run prog w=.ok (.func fn first cap) w:=fun _ _ _ _=>rfl
 obtain ⟨b0,off,x,y,t,A1,c1,hA,hbB,hin,q0,-⟩:=zCL hr (k:=0) (by omega);have f0:((n:Int)==0)=false:=by simp;omega
 have f1:decide ((512:Int) < (n:Int))=false:=decide_eq_false (by omega);have bn:(0:Int) < (n:Int)∧(n:Int)≤512:=by omega
 rw [Nat.zero_mul,Nat.add_zero] at q0;rw [hk] at q0;rw [show ((1:Nat):Int)=1 from rfl] at q0;have hnx:=zL5 (c:=c) hr;have hcall:=zLm w.heap.size (w.heap.size+1) w.heap.size (w.heap.size+1+1) A c v (by omega) hsm 12 (by omega) 1 0 _ (by omega) (by omega) hnx;have HBB:Hid (Below w.heap.size w (((w.alloc (.cells #[.slice A v.length c] 22)).alloc (.cells #[.int .i64 0] 3)).alloc (.cells #[mayF (w.heap.size+1) w.heap.size (w.heap.size+1+1)] 142))):=hI (stpA (stpA (stpA (Below.refl _ _) _) _) _);have hans:=hcall.mono fun e w' h=>(h.some (r:=r) (by rw [List.drop_zero];exact hrr))
 have hrl:=zEs hrr
 have HQ:Hid ((((v.length - r.length:Nat):Int)==(n:Int))=q):=hI (by
  rw [←hq,zJg (by omega) ⟨v[0]'(by omega),v.drop 1,by rw [←List.drop_eq_getElem_cons (by omega),List.drop_zero],hk⟩,hrr,←hn,Bool.eq_iff_iff]
  simp
  constructor
  · intro h;exact List.eq_nil_of_length_eq_zero (by omega)
  · intro h;rw [h];simp)
 have HV:Hid (∀w',((((w.alloc (.cells #[.slice A v.length c] 22)).alloc (.cells #[.int .i64 0] 3)).alloc (.cells #[mayF (w.heap.size+1) w.heap.size (w.heap.size+1+1)] 142))).grownBy w' (some (w.heap.size+1))→w'.heap[w.heap.size]?=some (.cells #[.slice A v.length c] 22 (0,0))):=hI fun w' hg=>(hg.block w.heap.size (lt_of_block hnx.hv) (fun e=>by injection e with e;omega)).trans hnx.hv
 obtain ⟨p9,hp9⟩:∃p9,v.length - r.length=p9:=⟨_,rfl⟩;rw [hp9] at hans HQ;rw [hn] at hans HBB HV;unfold mayF at hans HBB HV;have HA:=hI hans;subst hA;obtain ⟨q2,hq2⟩:∃q2,((p9:Int)==(n:Int))=q2:=⟨_,rfl⟩;rw [hq2] at HQ;clear hr hn hsm hin hnx hcall hk hrr hq hans hrl hp9
 go_enter func76,ntmps76
 go_wp2_with (first
  | (go_at_call 112;(with_reducible refine (HA.out).mono ?_);rintro e2 w2 ⟨rfl,hg2,hn2⟩;have kn:=cell_of_one hn2;have kv:=cell_of_one (HV.out w2 hg2))
  | fail)
 go_ret
 exact ⟨zQU HQ.out,HBB.out.trans (zDJ hg2 (by omega) (by simp))⟩
theorem zMM (A:Option Addr) (n c:Nat) (v:List Nd) (w:World) (hr:RdB NdS w A v) (hn:v.length=n) (hsm:∀n∈v,zAW n) (h0:0 < n) (h5:n≤512) (hk:(v[0]'(by omega)).kind=1) (hrr:zAE 12 v=none) (q:Bool) (hq:mayV v=q):Calls prog 76 #[.slice A n c] w fun e w'=>e=.returned (.bool q)∧Below w.heap.size w w':=by
 have hmf:∀(fn:Fn) (first cap:Array Value) (w:World),(Instr.makeFunc fn first cap).run prog w=.ok (.func fn first cap) w:=fun _ _ _ _=>rfl
 obtain ⟨b0,off,x,y,t,A1,c1,hA,hbB,hin,q0,-⟩:=zCL hr (k:=0) (by omega);have f0:((n:Int)==0)=false:=by simp;omega
 have f1:decide ((512:Int) < (n:Int))=false:=decide_eq_false (by omega);have bn:(0:Int) < (n:Int)∧(n:Int)≤512:=by omega
 rw [Nat.zero_mul,Nat.add_zero] at q0;rw [hk] at q0;rw [show ((1:Nat):Int)=1 from rfl] at q0;have hnx:=zL5 (c:=c) hr;have hcall:=zLm w.heap.size (w.heap.size+1) w.heap.size (w.heap.size+1+1) A c v (by omega) hsm 12 (by omega) 1 0 _ (by omega) (by omega) hnx;have HBB:Hid (Below w.heap.size w (((w.alloc (.cells #[.slice A v.length c] 22)).alloc (.cells #[.int .i64 0] 3)).alloc (.cells #[mayF (w.heap.size+1) w.heap.size (w.heap.size+1+1)] 142))):=hI (stpA (stpA (stpA (Below.refl _ _) _) _) _);have hans:=hcall.mono fun e w' h=>(h.none (by rw [List.drop_zero];exact hrr))
 obtain rfl:false=q:=by
  rw [←hq,zJg (by omega) ⟨v[0]'(by omega),v.drop 1,by rw [←List.drop_eq_getElem_cons (by omega),List.drop_zero],hk⟩,hrr]
  rfl
 rw [hn] at hans HBB;unfold mayF at hans HBB;have HA:=hI hans;subst hA;clear hr hn hsm hin hnx hcall hk hrr hq hans
 go_enter func76,ntmps76
 go_wp2_with (first
  | (go_at_call 112;(with_reducible refine (HA.out).mono ?_);rintro e2 w2 ⟨rfl,hg2,p2,hn2⟩)
  | fail)
 go_ret
 exact ⟨rfl,HBB.out.trans (zDJ hg2 (by omega) (by simp))⟩
theorem zRv (A:Option Addr) (n c:Nat) (v:List Nd) (w:World) (hr:RdB NdS w A v) (hn:v.length=n) (hmax:n≤9223372036854775807) (hsm:n≤512→∀m∈v,zAW m) (q:Bool) (hq:mayV v=q):Calls prog 76 #[.slice A n c] w fun e w'=>e=.returned (.bool q)∧Below w.heap.size w w':=by
 by_cases h0:n=0
 · subst h0
   have:v=[]:=List.eq_nil_of_length_eq_zero hn;subst this;obtain rfl:false=q:=by rw [←hq];rfl
   exact zOS A c w
 · by_cases h5:n≤512
   · by_cases hk:(v[0]'(by omega)).kind=1
     · cases hrr:zAE 12 v with
       | none=>exact zMM A n c v w hr hn (hsm h5) (by omega) h5 hk hrr q hq
       | some r=>exact zPw A n c v w hr hn (hsm h5) (by omega) h5 hk r hrr q hq
     · obtain rfl:false=q:=by
        rw [←hq];refine (zNT ?_).symm;rintro ⟨_,m,l,rfl,k⟩;exact hk k
       exact zN3 A n c v w hr hn (by omega) h5 hk
   · obtain rfl:false=q:=by
      rw [←hq];exact (zNT fun h=>h5 (by omega)).symm
     exact zO6 A n c w (by omega)
theorem zGm (A:Option Addr) (n c:Nat) (v:List Nd) (w:World) (hr:RdB NdS w A v) (hn:v.length=n) (hmax:n≤9223372036854775807) (hsm:n≤512→∀m∈v,zAW m) (q:Int) (hq:zDI v=q):Calls prog 36 #[.slice A n c] w fun e w'=>e=.returned (.int .i64 q)∧Below w.heap.size w w':=by
 unfold zDI at hq
 cases hm:mayV v with
 | true =>
  rw [hm,if_pos rfl] at hq;subst hq;have HC:=hI (zRv A n c v w hr hn hmax hsm true hm);clear hr hn hmax hsm hm
  go_enter func36,ntmps36
  go_wp2_with (first
   | (go_at_call 76;(with_reducible refine (HC.out).mono ?_);rintro e1 w1 ⟨rfl,hb1⟩)
   | fail)
  go_ret
  exact ⟨rfl,hb1⟩
 | false =>
  rw [hm,if_neg (by decide)] at hq;subst hq;have HC:=hI (zRv A n c v w hr hn hmax hsm false hm);clear hr hn hmax hsm hm
  go_enter func36,ntmps36
  go_wp2_with (first
   | (go_at_call 76;(with_reducible refine (HC.out).mono ?_);rintro e1 w1 ⟨rfl,hb1⟩)
   | fail)
  go_ret
  exact ⟨rfl,hb1⟩
theorem zQw (s:ByteArray):s.toList.isEmpty=s.data.toList.isEmpty:=by rw [ByteArray.toList_eq]
end Hx
end Go.Proofs.YtlgppednjkbgiaaGreatDoor
