/-
  Texts of one seat, put together: LexZ, LexQ, LexF, LexH, BldK, LeaC.
-/
import Derived.Test.YtlgppednjkbgiaaGreatDoorMbA
import Derived.Test.YtlgppednjkbgiaaGreatDoorMb12
import Derived.Deep.RegionHeld3
import Derived.Test.YtlgppednjkbgiaaGreatDoorMb07
import Derived.Deep.LoopGhost
import Derived.Test.YtlgppednjkbgiaaGreatDoorMb06
import Derived.Deep.QuietTactic
import Derived.Test.YtlgppednjkbgiaaGreatDoorMb10
import Derived.Test.YtlgppednjkbgiaaGreatDoorMb03
import Derived.Test.YtlgppednjkbgiaaGreatDoorMb05
import Derived.Maps.OwnSet
import Derived.Maps.OwnOps
set_option maxRecDepth 100000
set_option maxHeartbeats 16000000
set_option linter.unusedVariables false
namespace Go.Proofs.YtlgppednjkbgiaaGreatDoor
open Go.RowKit Go.Proofs.Tryz
namespace Hx
open Lx Tx Nmb Es
deriving instance DecidableEq for Pr
deriving instance DecidableEq for Tk
theorem zIC {α:Type} {l m:List α} {k:Nat} (h1:k < l.length) (h2:k < m.length) (h:l.take k=m.take k) (he:l[k]'h1=m[k]'h2):l.take (k+1)=m.take (k+1):=by
 rw [List.take_succ_eq_append_getElem h1,List.take_succ_eq_append_getElem h2,h,he]
theorem zRu {α:Type} {l m:List α} {k:Nat} (h1:k < l.length) (h2:k < m.length) (he:l[k]'h1≠m[k]'h2):l≠m:=by
 rintro rfl;exact he rfl
theorem zFL:∀(l:List Tk),zBx l=true↔∀(i:Nat) (h:i+1 < l.length),¬((l[i]'(by omega)).kind=4∧(l[i+1]'h).kind=4)
 | []=>by simp [zBx]
 | [a]=>by simp [zBx]
 | a::b::r=>by
  rw [zBx,Bool.and_eq_true,zFL (b::r)]
  constructor
  · rintro ⟨h1,h2⟩ i hi
    cases i with
    | zero =>
     intro hh;simp only [List.getElem_cons_zero,List.getElem_cons_succ] at hh
     simp [hh.1,hh.2] at h1
    | succ i=>exact h2 i (by simpa using hi)
  · intro h
    refine ⟨?_,fun i hi=>?_⟩
    · have:=h 0 (by simp)
      simp only [List.getElem_cons_zero,List.getElem_cons_succ] at this
      by_cases h1:a.kind=4
      · by_cases h2:b.kind=4
        · exact absurd ⟨h1,h2⟩ this
        · simp [h2]
      · simp [h1]
    · exact h (i+1) (by simpa using hi)
theorem zNW {l:List Tk} {k:Nat} (h0:1≤k) (h:k < l.length) (h1:(l[k - 1]'(by omega)).kind=4) (h2:(l[k]'h).kind=4):zBx l=false:=by
 cases hb:zBx l with
 | false=>rfl
 | true =>
  have:=(zFL l).1 hb (k - 1) (by omega);have e:k - 1+1=k:=by omega
  simp only [e] at this;exact absurd ⟨h1,h2⟩ this
theorem zKl {l:List Tk} {k:Nat} (h0:1≤k) (h:k < l.length) (hp:zBx (l.take k)=true) (hn:¬((l[k - 1]'(by omega)).kind=4∧(l[k]'h).kind=4)):zBx (l.take (k+1))=true:=by
 rw [zFL] at hp ⊢;intro i hi;rw [List.length_take] at hi
 by_cases e:i+1=k
 · have e2:i=k - 1:=by omega
   subst e2;simp only [List.getElem_take,e];exact hn
 · have:=hp i (by rw [List.length_take];omega)
   simpa only [List.getElem_take] using this
def zCr (t:Tk):Prop:=t.name.length≤1000000∧t.text.length≤1000000∧t.attrs.length≤1000000∧∀p∈t.attrs,p.name.length≤1000000∧p.value.length≤1000000
theorem zSN {w:World} {A:Option Addr} {l:List Tk} {k:Nat} (hr:RdC TkC w w.heap.size A l) (hk:k < l.length) (hs:zCr (l[k]'hk)) :
 ∃(b off:Nat) (x u:ByteArray) (A1:Option Addr) (p1:Nat),A=some ⟨b,off,none⟩∧b < w.heap.size∧w.cell? ⟨b,off+k*4,none⟩=some (.int .u8 ((l[k]'hk).kind:Int))∧w.cell? ⟨b,off+k*4+1,none⟩=some (.string x) ∧
  w.cell? ⟨b,off+k*4+2,none⟩=some (.slice A1 (l[k]'hk).attrs.length p1)∧w.cell? ⟨b,off+k*4+3,none⟩=some (.string u)∧TkAt (l[k]'hk) x u A1 p1 w:=by
 obtain ⟨b,off,e,hb,hc⟩:=hr (by omega);obtain ⟨cs,⟨x,A1,p1,u,rfl,hkd,hx,hu,hle,hmx,hnl,hrd⟩,hcell⟩:=hc k hk;obtain ⟨s1,s2,s3,s4⟩:=hs;refine ⟨b,off,x,u,A1,p1,e,hb,hcell 0 (by simp),hcell 1 (by simp),hcell 2 (by simp),hcell 3 (by simp),⟨hx,hu,hrd,hle,?_,?_,s3,s4⟩⟩
 · rw [←ba_l,hx];exact s1
 · rw [←ba_l,hu];exact s2
end Hx
namespace Hx
abbrev OK9 (b:Nat) (w w':World):Prop:=Lib.OthersKept 5 (some b) w w'
theorem OK9.of_below {b:Nat} {w w':World} (h:Below w.heap.size w w'):OK9 b w w':=fun k o hk _ _=>(h.block k (Array.getElem?_eq_some_iff.1 hk).1).trans hk
theorem OK9.stay {b g:Nat} {w w':World} {cs:Array Value} {T:TypeId} {fr:Nat × Nat} (h:OK9 b w w') (hg:w.heap[g]?=some (.cells cs T fr)) (hb:g≠b) (hT:T≠5):w'.heap[g]?=some (.cells cs T fr) :=
 h g _ hg (fun e=>hb (Option.some.inj e)) (fun c fz e=>by injection e with _ e _;exact hT e)
theorem zQa (B b:Nat) (bs:List Value) (w:World) (h:Lib.IsBuilderF 169 5 B b bs w) :
 Calls prog 197 #[.pointer (some ⟨b,0,none⟩)] w fun e w'=>e=.returned (.tuple #[])∧Lib.BuilderAtF 169 5 B b (.pointer (some ⟨b,0,none⟩)) bs w'∧Below B w w'∧OK9 b w w':=by
 rcases h with h | h
 · refine (zKB b w h.cell0 h.shape h.frozen0).mono ?_
   rintro e w' ⟨rfl,rfl⟩;exact ⟨rfl,h.used _,(Below.refl B w).setCell (p:=⟨b,0,none⟩) h.1 _,(Lib.OthersKept.refl _ _ _).setCell ⟨b,0,none⟩ rfl _⟩
 · refine (zMp b w h.cell0).mono ?_
   rintro e w' ⟨rfl,rfl⟩;exact ⟨rfl,h,Below.refl B _,Lib.OthersKept.refl _ _ _⟩
theorem bwsK (B b:Nat) (l:List UInt8) (x:ByteArray) (w:World) (h:Bld B b l w) (hl:l.length+x.size≤1000000000) (hBw:B≤w.heap.size) :
 Calls prog 171 #[.pointer (some ⟨b,0,none⟩),.string x] w fun e w'=>e=.returned (.tuple #[.int .i64 x.size,.nilIface])∧Bld B b (l++x.data.toList) w'∧Below B w w'∧OK9 b w w':=by
 obtain ⟨i0,hi,hz0,hz1,hz2⟩:=info_parts zMG;obtain ⟨bs,hbs⟩:∃bs,Lib.byteCells l=bs:=⟨_,rfl⟩;have hbl:bs.length=l.length:=by rw [←hbs,zDC]
 have HE:Hid (Lib.byteCells (l++x.data.toList)=bs++Lib.strCells x):=hI (by rw [zDx,hbs];rfl);have h':Lib.IsBuilderF 169 5 B b bs w:=hbs ▸ h;have hl':bs.length+x.size≤1000000000:=by omega
 clear h hbs hbl hl
 go_enter func171,ntmps171
 go_wp2_with (go_at_call 197;(with_reducible refine (zQa B b bs w h').mono ?_))
 rintro e w1 ⟨rfl,h1,hb1,hk1⟩;obtain ⟨hB,v,hbk,hown,hne⟩:=h1;have c0:w1.cell? ⟨b,0,none⟩=some (.pointer (some ⟨b,0,none⟩)):=by rw [Lib.cell_of_heap hbk];rfl
 have c1:w1.cell? ⟨b,1,none⟩=some v:=by rw [Lib.cell_of_heap hbk];rfl
 go_wp2_with (at_builtin;refine Lib.wpList_append_own_stringF _ rfl _ _ 167 9 rfl B 5 i0 underlying167 underlying9 hi hz0 hz1 hz2 _ _ _ rfl hown x rfl ?c3 ?c4 ?c5 ?_)
 case c3=>unfold maxLen;omega
 case c4=>omega
 case c5=>have:=hb1.size;omega
 intro v' w2 hown' hgrow _
 have hlt:b < w1.heap.size:=by
  rcases Nat.lt_or_ge b w1.heap.size with h' | h'
  · exact h'
  · simp [Array.getElem?_eq_none h'] at hbk
 have hb2:w2.heap[b]?=some (.cells #[.pointer (some ⟨b,0,none⟩),v] 169 (0,0)):=by
  rw [hgrow.block b hlt (fun e=>hne e.symm)];exact hbk
 have d0:w2.cell? ⟨b,0,none⟩=some (.pointer (some ⟨b,0,none⟩)):=by rw [Lib.cell_of_heap hb2];rfl
 have d1:w2.cell? ⟨b,1,none⟩=some v:=by rw [Lib.cell_of_heap hb2];rfl
 have f1:w2.frozen? ⟨b,1,none⟩=false:=Lib.frozen_of_heap hb2 1
 obtain ⟨ao,n',cap,rfl⟩:∃ao n' cap,v'=.slice ao n' cap:=by
  rcases hown'.2 with ⟨hv,_⟩ | ⟨g,cap,cur,fz,hv,_⟩
  · exact ⟨_,_,_,hv⟩
  · exact ⟨_,_,_,hv⟩
 go_wp2
 go_ret2
 refine ⟨rfl,?_,?_,?_⟩
 · unfold Bld
   rw [HE.out];exact .inr (Lib.BuilderAtF.put (T:=169) (e:=5) hB hb2 (bs':=bs++Lib.strCells x) (by simpa [Lib.strCells_length] using hown') (by decide))
 · exact (hb1.grown hgrow (by have:=hb1.size;omega) (fun k hk=>(hown.lt k hk).1)).setCell (p:=⟨b,1,none⟩) hB _
 · exact (hk1.grown hgrow (Lib.ownsRowF_kind hown)).setCell ⟨b,1,none⟩ rfl _
abbrev zCG (B b:Nat) (l:List UInt8) (w w':World):Prop:=Bld B b l w'∧Below B w w'∧OK9 b w w'
theorem zCG.trans {B b:Nat} {l m:List UInt8} {w w1 w2:World} (h:zCG B b l w w1) (k:zCG B b m w1 w2):zCG B b m w w2:=⟨k.1,h.2.1.trans k.2.1,h.2.2.trans k.2.2⟩
theorem zCG.size {B b:Nat} {l:List UInt8} {w w1:World} (h:zCG B b l w w1):w.heap.size≤w1.heap.size:=h.2.1.size
theorem zCG.of_below {B b:Nat} {l:List UInt8} {w w1 w2:World} (h:zCG B b l w w1) (k:Below w1.heap.size w1 w2) (hB:B≤w.heap.size):zCG B b l w w2 :=
 ⟨h.1.below k,h.2.1.trans (k.mono (Nat.le_trans hB h.size)),h.2.2.trans (OK9.of_below k)⟩
theorem bwsL (B b:Nat) (l L:List UInt8) (x:ByteArray) (w:World) (h:Bld B b l w) (hL:l++x.data.toList=L) (hl:L.length≤1000000000) (hBw:B≤w.heap.size) :
 Calls prog 171 #[.pointer (some ⟨b,0,none⟩),.string x] w fun e w'=>(∃n:Int,e=.returned (.tuple #[.int .i64 n,.nilIface]))∧zCG B b L w w':=by
 subst hL;refine (bwsK B b l x w h ?_ hBw).mono fun e w' ⟨h1,h2,h3,h4⟩=>⟨⟨_,h1⟩,h2,h3,h4⟩
 rw [List.length_append] at hl;have:x.data.toList.length=x.size:=by cases x;simp [ByteArray.size]
 omega
end Hx
section
open Go.RowKit Go.Maps Go.WideMaps
namespace Hx
open Lx Tx Nmb Es
theorem law9:Keyed prog 9:=string_keyed underlying9
theorem zSQ (w:World):(zeroValue 3).run prog w=.ok (.int .i64 0) w:=by kernel_rfl
structure Seen (D:DataW Unit) (l:List Pr):Prop where
 has:∀z:List UInt8,Maps.has D (.string z)=hasL l z
 size:Maps.size D=dis [] l
theorem Seen.nil:Seen (.map []) []:=⟨fun _=>rfl,rfl⟩
theorem Seen.next {D:DataW Unit} {l:List Pr} (h:Seen D l) (ht:Maps.Tidy D) (p:Pr) (d:DataW Unit):Seen (D.put (.string p.name) d) (l++[p]):=by
 refine ⟨fun z=>?_,?_⟩
 · have e:hasL (l++[p]) z=(hasL l z||decide (p.name=z)):=by simp [hasL]
   rw [e]
   by_cases hz:p.name=z
   · subst hz
     rw [Maps.has_put_same ht.isMap (by simp [WideAt.IsKeyLit])]
     simp
   · rw [Maps.has_put_other (fun e=>hz (by injection e with e;exact e.symm)),h.has]
     simp [hz]
 · rw [Maps.size_put ht,h.has,h.size,zOi,List.nil_append]
   cases hasL l p.name <;> simp
theorem zMu (l:List Pr):decide (dis [] l < l.length)= !zBg [] l:=by
 obtain ⟨h1,h2⟩:=zRM l []
 cases hf:zBg [] l with
 | true=>have:=h2.2 hf;exact decide_eq_false (by omega)
 | false =>
  refine decide_eq_true ?_;rcases Nat.lt_or_eq_of_le h1 with h | h
  · omega
  · have:=h2.1 h;rw [hf] at this;cases this
theorem zCx {w w1:World} {cs:Array Value} {T:TypeId} (hb:Below (w.alloc (.cells cs T)).heap.size (w.alloc (.cells cs T)) w1) (i:Nat) (v:Value) (h:cs[i]?=some v):w1.cell? ⟨w.heap.size,i,none⟩=some v∧w.heap.size < w1.heap.size:=by
 have hs:=hb.size
 simp at hs
 refine ⟨?_,by omega⟩;rw [hb.cell (p:=⟨w.heap.size,i,none⟩) (by simp)]
 simp [h]
def zPr9:Array Value:=#[.string ⟨#[]⟩,.string ⟨#[]⟩]
theorem zNG (A:Option Addr) (n cp:Nat) (l:List Pr) (w:World) (hr:RdC PrC w w.heap.size A l) (hn:l.length=n) (hcp:n≤cp) (hm:n≤1000000) (hsz:∀p∈l,p.name.length≤1000000) (q:Bool) (h:(!zBg [] l)=q) :
 Calls prog 203 #[.slice A n cp] w fun e w'=>e=.returned (.bool q)∧Below w.heap.size w w':=by
 have hmm:=@run_makeMap prog;have HR:=hI hr;have HN:=hI hn;have HM:=hI hm;have HSZ:=hI hsz
 have HQ:Hid (∀D,Seen D l→decide (Maps.size D < n)=q):=hI fun D hD=>by
  rw [hD.size,←hn,zMu,h]
 clear hr hn h hsz
 go_enter func203,ntmps203
 go_wp2_with fail
 go_loopw [9] (fun i wr=>∃(k:Nat) (D:DataW Unit),k≤n∧i=.int .i64 k∧wr.ownsMap prog 9 (plainElem prog 3) w.heap.size k D∧Seen D (l.take k)∧Below w.heap.size w wr) (fun i _=>n - (intOf i).toNat)
 case atStart=>exact ⟨0,.map [],Nat.zero_le _,rfl,World.ownsMap_made _ _ _ _,Seen.nil,(Below.refl _ _).alloc (Nat.le_refl _) _⟩
 case round =>
  obtain ⟨k,D,hk,rfl,hown,hseen,hbw⟩:=hrel;have hm:=HM.out;have HBW:=hI hbw
  by_cases hlt:k < n
  · have hk1:k < l.length:=by rw [HN.out];exact hlt
    obtain ⟨b0,off,rfl,hbB,hc⟩:=(HR.out.below hbw) (by omega);obtain ⟨cs,⟨x,y,rfl,hx,hy⟩,hcell⟩:=hc k hk1;have c0:wr.cell? ⟨b0,off+k*2,none⟩=some (.string x):=hcell 0 (by simp);have c1:wr.cell? ⟨b0,off+k*2+1,none⟩=some (.string y):=hcell 1 (by simp);have hz:=HSZ.out _ (List.getElem_mem hk1);rw [←hx,ba_l] at hz;have hkey:keyOf prog 9 (.string x)=some (.string x.data.toList):=keyOf_string_mk underlying9 (by unfold maxLen;omega);have bk:(0:Int)≤(k:Int)∧(k:Int) < (n:Int):=by omega
    have bc:(k:Int)≤(cp:Int):=by omega
    have HNEW:Hid (∀d,Seen (D.put (.string x.data.toList) d) (l.take (k+1))):=hI fun d=>by
     have:=hseen.next (hown.tidy law9) (l[k]'hk1) d;rw [←List.take_succ_eq_append_getElem hk1,←hx] at this;exact this
    have HOWN:=hI hown;have HKEY:=hI hkey;clear hbw hc hcell hx hy hz hk1 hseen hown hkey
    go_wp2_with (first
     | (refine wpList_store_row rfl _ _ _ rfl wr.heap.size #[.string x,.string y] rfl rfl 187 zPr9 (heap_alloc_new _ _) zEI rfl (zIg x y) ?_;rw [World.setRow_alloc_new])
     | (at_lookup;refine wpList_lookup_own_int _ rfl _ _ 246 rfl 9 3 .i64 law9 underlying246 underlying3 (zSQ _) w.heap.size k D rfl (HOWN.out.alloc _) _ _ rfl HKEY.out ?_;intro c hat hwc;clear hat hwc)
     | (at_mapUpdate;refine wpList_mapUpdate_own _ rfl _ _ _ 246 rfl 9 3 law9 underlying246 _ w.heap.size k _ rfl (HOWN.out.alloc _) (by unfold maxLen;omega) _ _ _ rfl rfl HKEY.out _ [] (plainElem_int underlying3 (wrap64_wf _)) ?_;intro w2 hown2 hgr2;have HO2:=hI hown2;have HG2:=hI hgr2;clear hown2 hgr2)
     | fail)
    go_roundw
    case rel=>exact ⟨k+1,_,by omega,by go_num,HO2.out,HNEW.out _,(HBW.out.alloc HBW.out.size _).grown HG2.out (Nat.le_trans HBW.out.size (by simp)) (fun j hj=>by cases hj;exact Nat.le_refl _)⟩
    case measure=>simp [intOf];omega
  · obtain rfl:k=n:=by omega
    have hq:=HQ.out D (by rwa [List.take_of_length_le (by rw [HN.out];exact Nat.le_refl _)] at hseen);have HOWN:=hI hown;clear hseen hbw hown;have tok1:True:=trivial
    go_wp2_with (first
     | (have _t:=tok1;at_len;refine wpList_len_own _ rfl _ 246 rfl 9 3 underlying246 _ w.heap.size k D rfl HOWN.out ?_;clear _t tok1)
     | fail)
    go_ret
    exact ⟨rfl,HBW.out⟩
theorem zE3 {l:List Pr} {k:Nat} (h:k < l.length) (f:Pr→Bool):(l.take (k+1)).all f=((l.take k).all f&&f (l[k]'h)):=by
 rw [List.take_succ_eq_append_getElem h,List.all_append]
 simp
def zGE (p:Pr):Bool:=zAP p.name&&okT p.value
theorem zFv (l:List Pr):zBb l=(zBg [] l&&l.all zGE&&decide (l.length≤16)):=by unfold zBb;rw [zGy];rfl
theorem zJl (A:Option Addr) (n cp:Nat) (l:List Pr) (w:World) (hr:RdC PrC w w.heap.size A l) (hn:l.length=n) (hcp:n≤cp) (hm:n≤1000000) (hsz:∀p∈l,p.name.length≤1000000∧p.value.length≤1000000) (q:Bool) (h:zBb l=q) :
 Calls prog 195 #[.slice A n cp] w fun e w'=>e=.returned (.bool q)∧Below w.heap.size w w':=by
 rw [zFv,hn] at h
 by_cases h16:n≤16
 · rw [decide_eq_true h16,Bool.and_true] at h
   have g16:decide ((16:Int) < (n:Int))=false:=decide_eq_false (by omega)
   cases hf:zBg [] l with
   | false =>
    obtain rfl:false=q:=by rw [←h,hf];rfl
    have HC:Hid (Calls prog 203 #[.slice A n cp] w fun e w'=>e=.returned (.bool true)∧Below w.heap.size w w'):=hI (zNG A n cp l w hr hn hcp hm (fun p hp=>(hsz p hp).1) true (by rw [hf];rfl));clear hr hn hcp hsz h hf
    go_enter func195,ntmps195
    go_wp2_with (first
     | (go_at_call 203;(with_reducible refine (HC.out).mono ?_);rintro e1 w1 ⟨rfl,hb1⟩)
     | fail)
    go_ret
    exact ⟨rfl,hb1⟩
   | true =>
    have HC:Hid (Calls prog 203 #[.slice A n cp] w fun e w'=>e=.returned (.bool false)∧Below w.heap.size w w'):=hI (zNG A n cp l w hr hn hcp hm (fun p hp=>(hsz p hp).1) false (by rw [hf];rfl));rw [hf,Bool.true_and] at h;have HR:=hI hr;have HN:=hI hn;have HH:=hI h;have HSZ:=hI hsz;clear hr hn hsz h hf
    go_enter func195,ntmps195
    go_wp2_with (first
     | (go_at_call 203;(with_reducible refine (HC.out).mono ?_);rintro e1 w1 ⟨rfl,hb1⟩;have HB1:=hI hb1;clear hb1)
     | fail)
    go_loopw [14] (fun i wr=>∃k:Nat,k≤n∧i=.int .i64 k∧(l.take k).all zGE=true∧Below w.heap.size w wr) (fun i _=>n - (intOf i).toNat)
    case atStart=>exact ⟨0,Nat.zero_le _,rfl,rfl,HB1.out⟩
    case round =>
     obtain ⟨k,hk,rfl,hall,hbw⟩:=hrel;have HBW:=hI hbw
     by_cases hlt:k < n
     · have hk1:k < l.length:=by rw [HN.out];exact hlt
       obtain ⟨b0,off,rfl,hbB,hc⟩:=(HR.out.below hbw) (by omega);obtain ⟨cs,⟨x,y,rfl,hx,hy⟩,hcell⟩:=hc k hk1;have c0:wr.cell? ⟨b0,off+k*2,none⟩=some (.string x):=hcell 0 (by simp);have c1:wr.cell? ⟨b0,off+k*2+1,none⟩=some (.string y):=hcell 1 (by simp);have hz:=HSZ.out _ (List.getElem_mem hk1);rw [←hx,←hy,ba_l,ba_l] at hz;have HXS:=hI hz.1;have HYS:=hI hz.2;have bk:(0:Int)≤(k:Int)∧(k:Int) < (n:Int):=by omega
       have bc:(k:Int)≤(cp:Int):=by omega
       have hg:zGE (l[k]'hk1)=(zAP x.data.toList&&okT y.data.toList):=by unfold zGE;rw [←hx,←hy]
       have hbad:zGE (l[k]'hk1)=false→l.all zGE=false:=fun e=>List.all_eq_false.2 ⟨_,List.getElem_mem hk1,by rw [e];decide⟩
       have hnx:zGE (l[k]'hk1)=true→(l.take (k+1)).all zGE=true:=fun e=>by rw [zE3 hk1,hall,e];rfl
       have HBO:Hid (∀o,Below w.heap.size w (wr.alloc o)):=hI fun o=>hbw.alloc hbw.size o
       cases hf:zAP x.data.toList with
       | false =>
        have HF:=hI hf;obtain rfl:false=q:=by rw [←HH.out];exact (hbad (by rw [hg,hf];rfl)).symm
        clear hbw hc hcell hx hy hz hk1 hall hg hbad hnx hf
        go_wp2_with (first
         | (refine wpList_store_row rfl _ _ _ rfl wr.heap.size #[.string x,.string y] rfl rfl 187 zPr9 (heap_alloc_new _ _) zEI rfl (zIg x y) ?_;rw [World.setRow_alloc_new])
         | (go_at_call 156;(with_reducible refine (zBY x _ HXS.out false HF.out).mono ?_);rintro e2 w2 ⟨rfl,hb2⟩)
         | fail)
        go_ret
        exact ⟨rfl,stp (HBO.out _) hb2⟩
       | true =>
        have HF:=hI hf
        cases hv:okT y.data.toList with
        | false =>
         obtain ⟨er,her⟩:∃er,chkE y=er:=⟨_,rfl⟩;have HCK:=hI her;have g0:(er != 0)=true:=by rw [←her];simpa using zEa hv
         obtain rfl:false=q:=by rw [←HH.out];exact (hbad (by rw [hg,hf,hv];rfl)).symm
         clear hbw hc hcell hx hy hz hk1 hall hg hbad hnx hf hv her
         go_wp2_with (first
          | (refine wpList_store_row rfl _ _ _ rfl wr.heap.size #[.string x,.string y] rfl rfl 187 zPr9 (heap_alloc_new _ _) zEI rfl (zIg x y) ?_;rw [World.setRow_alloc_new])
          | (go_at_call 156;(with_reducible refine (zBY x _ HXS.out true HF.out).mono ?_);rintro e2 w2 ⟨rfl,hb2⟩;have d1:=(zCx hb2 1 (.string y) rfl).1;have HB2:Hid (Below w.heap.size w w2):=hI (stp (HBO.out _) hb2);clear hb2)
          | (go_at_call 47;(with_reducible refine (zCb y _ HYS.out er HCK.out).mono ?_);rintro e3 w3 ⟨rfl,hb3⟩)
          | fail)
         go_ret
         exact ⟨rfl,stp HB2.out hb3⟩
        | true =>
         have HCK:Hid (chkE y=0):=hI (zE8 hv);have HV:=hI (hnx (by rw [hg,hf,hv];rfl));clear hbw hc hcell hx hy hz hk1 hall hg hbad hnx hf hv
         go_wp2_with (first
          | (refine wpList_store_row rfl _ _ _ rfl wr.heap.size #[.string x,.string y] rfl rfl 187 zPr9 (heap_alloc_new _ _) zEI rfl (zIg x y) ?_;rw [World.setRow_alloc_new])
          | (go_at_call 156;(with_reducible refine (zBY x _ HXS.out true HF.out).mono ?_);rintro e2 w2 ⟨rfl,hb2⟩;have d1:=(zCx hb2 1 (.string y) rfl).1;have HB2:Hid (Below w.heap.size w w2):=hI (stp (HBO.out _) hb2);clear hb2)
          | (go_at_call 47;(with_reducible refine (zCb y _ HYS.out 0 HCK.out).mono ?_);rintro e3 w3 ⟨rfl,hb3⟩;have HB3:Hid (Below w.heap.size w w3):=hI (stp HB2.out hb3);clear hb3)
          | fail)
         go_roundw
         case rel=>exact ⟨k+1,by omega,by go_num,HV.out,HB3.out⟩
         case measure=>simp [intOf];omega
     · obtain rfl:k=n:=by omega
       obtain rfl:true=q:=by
        rw [←HH.out]
        rwa [List.take_of_length_le (by rw [HN.out];exact Nat.le_refl _),eq_comm] at hall
       clear hall hbw
       go_wp2_with fail
       go_ret
       exact ⟨rfl,HBW.out⟩
 · rw [decide_eq_false h16,Bool.and_false] at h
   obtain rfl:false=q:=h;have g16:decide ((16:Int) < (n:Int))=true:=decide_eq_true (by omega);clear hr hn hcp hsz
   go_enter func195,ntmps195
   go_wp2_with fail
   go_ret
   exact ⟨rfl,Below.refl _ _⟩
end Hx
end
end Go.Proofs.YtlgppednjkbgiaaGreatDoor
