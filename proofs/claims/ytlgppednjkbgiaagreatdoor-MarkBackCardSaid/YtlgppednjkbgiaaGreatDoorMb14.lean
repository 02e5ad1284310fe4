/-
  Texts of one seat, put together: LeaM, LeaN, LeaO, LexB, LexWr, MemE.
-/
import Derived.Test.YtlgppednjkbgiaaGreatDoorMbA
import Derived.Test.YtlgppednjkbgiaaGreatDoorMb13
import Derived.Test.YtlgppednjkbgiaaGreatDoorMb07
import Derived.Test.YtlgppednjkbgiaaGreatDoorMb10
import Derived.Deep.LoopGhost
import Derived.Test.YtlgppednjkbgiaaGreatDoorMb06
import Derived.Test.YtlgppednjkbgiaaGreatDoorMb12
import Derived.Laws.AppendOwnNone
import Derived.Test.YtlgppednjkbgiaaGreatDoorMb02
import Derived.Maps.AppendAt
import Derived.Deep.AppendLies
set_option maxRecDepth 100000
set_option maxHeartbeats 16000000
set_option linter.unusedVariables false
namespace Go.Proofs.YtlgppednjkbgiaaGreatDoor
open Go.RowKit Go.Proofs.Tryz
namespace Hx
open Lx Tx Nmb Es
theorem zRF (t:Tk) (x u:ByteArray) (A:Option Addr) (cp:Nat) (w:World) (ht:TkAt t x u A cp w) (hk:t.kind=1) (q:Bool) (h:mayT t=q) :
 Calls prog 169 #[TkV t x u A cp] w fun e w'=>e=.returned (.bool q)∧Below w.heap.size w w':=by
 have HB:Hid (∀o,Below w.heap.size w (w.alloc o)):=hI fun o=>(Below.refl _ _).alloc (Nat.le_refl _) o
 have HTK:Hid (∀W,Below w.heap.size w W→TkAt t x u A cp W):=hI fun W hW=>ht.on hW
 have HN:Hid (x.size≤1000000):=ht.ns;have HU:Hid (u.size≤1000000):=ht.us;unfold mayT at h;rw [if_pos (by rw [hk];decide)] at h;obtain ⟨n,hn⟩:∃n,t.attrs.length=n:=⟨_,rfl⟩;have HNL:=hI hn;obtain ⟨ff,hf⟩:∃ff,zAP x.data.toList=ff:=⟨_,rfl⟩;obtain ⟨aa,ha⟩:∃aa,zBb t.attrs=aa:=⟨_,rfl⟩;obtain ⟨ee,hue⟩:∃ee,u.toList.isEmpty=ee:=⟨_,rfl⟩;rw [←ht.name,hf,ha,←ht.text,←zLw,hue] at h;have HF:=hI hf;have HA:=hI ha;unfold TkV;rw [hk,hn];clear ht hf ha hn hk
 cases ff with
 | false =>
  obtain rfl:false=q:=h
  go_enter func169,ntmps169
  go_wp2_with (first
   | (go_at_call 156;(with_reducible refine (zBY x _ HN.out false HF.out).mono ?_);rintro e1 w1 ⟨rfl,hb1⟩;have HB1:Hid (Below w.heap.size w w1):=hI (stp (HB.out _) hb1);have c2:=(zAa hb1 2 (.slice A n cp) rfl).1;have c3:=(zAa hb1 3 (.string u) rfl).1;have hlt1:=(zAa hb1 3 (.string u) rfl).2;clear hb1)
   | fail)
  go_ret
  exact ⟨rfl,HB1.out⟩
 | true =>
  cases aa with
  | false =>
   obtain rfl:false=q:=h
   go_enter func169,ntmps169
   go_wp2_with (first
    | (go_at_call 156;(with_reducible refine (zBY x _ HN.out true HF.out).mono ?_);rintro e1 w1 ⟨rfl,hb1⟩;have HB1:Hid (Below w.heap.size w w1):=hI (stp (HB.out _) hb1);have c2:=(zAa hb1 2 (.slice A n cp) rfl).1;have c3:=(zAa hb1 3 (.string u) rfl).1;have hlt1:=(zAa hb1 3 (.string u) rfl).2;clear hb1)
    | (go_at_call 195;(with_reducible refine (zJl A n cp t.attrs _ (HTK.out _ HB1.out).attrs HNL.out (HNL.out ▸ (HTK.out _ HB1.out).le) (HNL.out ▸ (HTK.out _ HB1.out).al) (HTK.out _ HB1.out).sz false HA.out).mono ?_);rintro e2 w2 ⟨rfl,hb2⟩;have HB2:Hid (Below w.heap.size w w2):=hI (stp HB1.out hb2);have d3:=(hb2.cell (p:=⟨w.heap.size,3,none⟩) hlt1).trans c3;clear hb2)
    | fail)
   go_ret
   exact ⟨rfl,HB2.out⟩
  | true =>
   obtain rfl:ee=q:=h
   go_enter func169,ntmps169
   go_wp2_with (first
    | (go_at_call 156;(with_reducible refine (zBY x _ HN.out true HF.out).mono ?_);rintro e1 w1 ⟨rfl,hb1⟩;have HB1:Hid (Below w.heap.size w w1):=hI (stp (HB.out _) hb1);have c2:=(zAa hb1 2 (.slice A n cp) rfl).1;have c3:=(zAa hb1 3 (.string u) rfl).1;have hlt1:=(zAa hb1 3 (.string u) rfl).2;clear hb1)
    | (go_at_call 195;(with_reducible refine (zJl A n cp t.attrs _ (HTK.out _ HB1.out).attrs HNL.out (HNL.out ▸ (HTK.out _ HB1.out).le) (HNL.out ▸ (HTK.out _ HB1.out).al) (HTK.out _ HB1.out).sz true HA.out).mono ?_);rintro e2 w2 ⟨rfl,hb2⟩;have HB2:Hid (Below w.heap.size w w2):=hI (stp HB1.out hb2);have d3:=(hb2.cell (p:=⟨w.heap.size,3,none⟩) hlt1).trans c3;clear hb2)
    | fail)
   go_ret
   exact ⟨rfl,HB2.out⟩
theorem zRL (t:Tk) (x u:ByteArray) (A:Option Addr) (cp:Nat) (w:World) (ht:TkAt t x u A cp w) (hk:t.kind=3) (q:Bool) (h:mayT t=q) :
 Calls prog 169 #[TkV t x u A cp] w fun e w'=>e=.returned (.bool q)∧Below w.heap.size w w':=by
 have HB:Hid (∀o,Below w.heap.size w (w.alloc o)):=hI fun o=>(Below.refl _ _).alloc (Nat.le_refl _) o
 have HTK:Hid (∀W,Below w.heap.size w W→TkAt t x u A cp W):=hI fun W hW=>ht.on hW
 have HN:Hid (x.size≤1000000):=ht.ns;have HU:Hid (u.size≤1000000):=ht.us;unfold mayT at h;rw [if_pos (by rw [hk];decide)] at h;obtain ⟨n,hn⟩:∃n,t.attrs.length=n:=⟨_,rfl⟩;have HNL:=hI hn;obtain ⟨ff,hf⟩:∃ff,zAP x.data.toList=ff:=⟨_,rfl⟩;obtain ⟨aa,ha⟩:∃aa,zBb t.attrs=aa:=⟨_,rfl⟩;obtain ⟨ee,hue⟩:∃ee,u.toList.isEmpty=ee:=⟨_,rfl⟩;rw [←ht.name,hf,ha,←ht.text,←zLw,hue] at h;have HF:=hI hf;have HA:=hI ha;unfold TkV;rw [hk,hn];clear ht hf ha hn hk
 cases ff with
 | false =>
  obtain rfl:false=q:=h
  go_enter func169,ntmps169
  go_wp2_with (first
   | (go_at_call 156;(with_reducible refine (zBY x _ HN.out false HF.out).mono ?_);rintro e1 w1 ⟨rfl,hb1⟩;have HB1:Hid (Below w.heap.size w w1):=hI (stp (HB.out _) hb1);have c2:=(zAa hb1 2 (.slice A n cp) rfl).1;have c3:=(zAa hb1 3 (.string u) rfl).1;have hlt1:=(zAa hb1 3 (.string u) rfl).2;clear hb1)
   | fail)
  go_ret
  exact ⟨rfl,HB1.out⟩
 | true =>
  cases aa with
  | false =>
   obtain rfl:false=q:=h
   go_enter func169,ntmps169
   go_wp2_with (first
    | (go_at_call 156;(with_reducible refine (zBY x _ HN.out true HF.out).mono ?_);rintro e1 w1 ⟨rfl,hb1⟩;have HB1:Hid (Below w.heap.size w w1):=hI (stp (HB.out _) hb1);have c2:=(zAa hb1 2 (.slice A n cp) rfl).1;have c3:=(zAa hb1 3 (.string u) rfl).1;have hlt1:=(zAa hb1 3 (.string u) rfl).2;clear hb1)
    | (go_at_call 195;(with_reducible refine (zJl A n cp t.attrs _ (HTK.out _ HB1.out).attrs HNL.out (HNL.out ▸ (HTK.out _ HB1.out).le) (HNL.out ▸ (HTK.out _ HB1.out).al) (HTK.out _ HB1.out).sz false HA.out).mono ?_);rintro e2 w2 ⟨rfl,hb2⟩;have HB2:Hid (Below w.heap.size w w2):=hI (stp HB1.out hb2);have d3:=(hb2.cell (p:=⟨w.heap.size,3,none⟩) hlt1).trans c3;clear hb2)
    | fail)
   go_ret
   exact ⟨rfl,HB2.out⟩
  | true =>
   obtain rfl:ee=q:=h
   go_enter func169,ntmps169
   go_wp2_with (first
    | (go_at_call 156;(with_reducible refine (zBY x _ HN.out true HF.out).mono ?_);rintro e1 w1 ⟨rfl,hb1⟩;have HB1:Hid (Below w.heap.size w w1):=hI (stp (HB.out _) hb1);have c2:=(zAa hb1 2 (.slice A n cp) rfl).1;have c3:=(zAa hb1 3 (.string u) rfl).1;have hlt1:=(zAa hb1 3 (.string u) rfl).2;clear hb1)
    | (go_at_call 195;(with_reducible refine (zJl A n cp t.attrs _ (HTK.out _ HB1.out).attrs HNL.out (HNL.out ▸ (HTK.out _ HB1.out).le) (HNL.out ▸ (HTK.out _ HB1.out).al) (HTK.out _ HB1.out).sz true HA.out).mono ?_);rintro e2 w2 ⟨rfl,hb2⟩;have HB2:Hid (Below w.heap.size w w2):=hI (stp HB1.out hb2);have d3:=(hb2.cell (p:=⟨w.heap.size,3,none⟩) hlt1).trans c3;clear hb2)
    | fail)
   go_ret
   exact ⟨rfl,HB2.out⟩
theorem zRQ (t:Tk) (x u:ByteArray) (A:Option Addr) (cp:Nat) (w:World) (ht:TkAt t x u A cp w) (hk:t.kind=2) (q:Bool) (h:mayT t=q) :
 Calls prog 169 #[TkV t x u A cp] w fun e w'=>e=.returned (.bool q)∧Below w.heap.size w w':=by
 have HB:Hid (∀o,Below w.heap.size w (w.alloc o)):=hI fun o=>(Below.refl _ _).alloc (Nat.le_refl _) o
 have HTK:Hid (∀W,Below w.heap.size w W→TkAt t x u A cp W):=hI fun W hW=>ht.on hW
 have HN:Hid (x.size≤1000000):=ht.ns;have HU:Hid (u.size≤1000000):=ht.us;unfold mayT at h;rw [if_neg (by rw [hk];decide),if_pos hk] at h;obtain ⟨n,hn⟩:∃n,t.attrs.length=n:=⟨_,rfl⟩;obtain ⟨ff,hf⟩:∃ff,zAP x.data.toList=ff:=⟨_,rfl⟩;obtain ⟨ee,hue⟩:∃ee,u.toList.isEmpty=ee:=⟨_,rfl⟩;have h0:t.attrs.isEmpty=decide (n=0):=by rw [←hn,Bool.eq_iff_iff,List.isEmpty_iff,decide_eq_true_eq,List.length_eq_zero_iff]
 rw [←ht.name,hf,h0,←ht.text,←zLw,hue] at h;have HF:=hI hf;unfold TkV;rw [hk,hn];clear ht hf hn hk h0
 cases ff with
 | false =>
  obtain rfl:false=q:=h
  go_enter func169,ntmps169
  go_wp2_with (first
   | (go_at_call 156;(with_reducible refine (zBY x _ HN.out false HF.out).mono ?_);rintro e1 w1 ⟨rfl,hb1⟩;have HB1:Hid (Below w.heap.size w w1):=hI (stp (HB.out _) hb1);have c2:=(zAa hb1 2 (.slice A n cp) rfl).1;have c3:=(zAa hb1 3 (.string u) rfl).1;have hlt1:=(zAa hb1 3 (.string u) rfl).2;clear hb1)
   | fail)
  go_ret
  exact ⟨rfl,HB1.out⟩
 | true =>
  by_cases e0:n=0
  · subst e0
    obtain rfl:ee=q:=h
    go_enter func169,ntmps169
    go_wp2_with (first
     | (go_at_call 156;(with_reducible refine (zBY x _ HN.out true HF.out).mono ?_);rintro e1 w1 ⟨rfl,hb1⟩;have HB1:Hid (Below w.heap.size w w1):=hI (stp (HB.out _) hb1);have c2:=(zAa hb1 2 (.slice A 0 cp) rfl).1;have c3:=(zAa hb1 3 (.string u) rfl).1;have hlt1:=(zAa hb1 3 (.string u) rfl).2;clear hb1)
     | fail)
    go_ret
    exact ⟨rfl,HB1.out⟩
  · rw [decide_eq_false e0] at h
    obtain rfl:false=q:=h;have g0:((n:Int)==0)=false:=by simp;omega
    go_enter func169,ntmps169
    go_wp2_with (first
     | (go_at_call 156;(with_reducible refine (zBY x _ HN.out true HF.out).mono ?_);rintro e1 w1 ⟨rfl,hb1⟩;have HB1:Hid (Below w.heap.size w w1):=hI (stp (HB.out _) hb1);have c2:=(zAa hb1 2 (.slice A n cp) rfl).1;have c3:=(zAa hb1 3 (.string u) rfl).1;have hlt1:=(zAa hb1 3 (.string u) rfl).2;clear hb1)
     | fail)
    go_ret
    exact ⟨rfl,HB1.out⟩
theorem zRh (t:Tk) (x u:ByteArray) (A:Option Addr) (cp:Nat) (w:World) (ht:TkAt t x u A cp w) (hk:t.kind=4) (q:Bool) (h:mayT t=q) :
 Calls prog 169 #[TkV t x u A cp] w fun e w'=>e=.returned (.bool q)∧Below w.heap.size w w':=by
 have HB:Hid (∀o,Below w.heap.size w (w.alloc o)):=hI fun o=>(Below.refl _ _).alloc (Nat.le_refl _) o
 have HTK:Hid (∀W,Below w.heap.size w W→TkAt t x u A cp W):=hI fun W hW=>ht.on hW
 have HN:Hid (x.size≤1000000):=ht.ns;have HU:Hid (u.size≤1000000):=ht.us;unfold mayT at h;rw [if_neg (by rw [hk];decide),if_neg (by rw [hk];decide),if_pos hk] at h;obtain ⟨n,hn⟩:∃n,t.attrs.length=n:=⟨_,rfl⟩;obtain ⟨xe,hxe⟩:∃xe,x.toList.isEmpty=xe:=⟨_,rfl⟩;obtain ⟨ue,hue⟩:∃ue,u.toList.isEmpty=ue:=⟨_,rfl⟩;have h0:t.attrs.isEmpty=decide (n=0):=by rw [←hn,Bool.eq_iff_iff,List.isEmpty_iff,decide_eq_true_eq,List.length_eq_zero_iff]
 obtain ⟨ok,hok⟩:∃ok,okT u.data.toList=ok:=⟨_,rfl⟩;have hok2:=hok;rw [ht.text] at hok2;rw [hok2] at h;rw [←ht.name,←zLw,hxe,h0,←ht.text,←zLw,hue] at h;unfold TkV;rw [hk,hn];clear ht hn hk h0 hok2
 cases xe with
 | false =>
  obtain rfl:false=q:=h
  go_enter func169,ntmps169
  go_wp2_with fail
  go_ret
  exact ⟨rfl,HB.out _⟩
 | true =>
  by_cases e0:n=0
  · subst e0
    cases ue with
    | true =>
     obtain rfl:false=q:=h
     go_enter func169,ntmps169
     go_wp2_with fail
     go_ret
     exact ⟨rfl,HB.out _⟩
    | false =>
     obtain rfl:ok=q:=h
     cases ok with
     | true =>
      have HC:Hid (chkE u=0):=hI (zE8 hok);clear hok
      go_enter func169,ntmps169
      go_wp2_with (first
       | (go_at_call 47;(with_reducible refine (zCb u _ HU.out 0 HC.out).mono ?_);rintro e1 w1 ⟨rfl,hb1⟩;have HB1:Hid (Below w.heap.size w w1):=hI (stp (HB.out _) hb1);clear hb1)
       | fail)
      go_ret
      exact ⟨rfl,HB1.out⟩
     | false =>
      obtain ⟨er,her⟩:∃er,chkE u=er:=⟨_,rfl⟩;have HC:=hI her;have g0:(er==0)=false:=by rw [←her];simpa using zEa hok
      clear hok her
      go_enter func169,ntmps169
      go_wp2_with (first
       | (go_at_call 47;(with_reducible refine (zCb u _ HU.out er HC.out).mono ?_);rintro e1 w1 ⟨rfl,hb1⟩;have HB1:Hid (Below w.heap.size w w1):=hI (stp (HB.out _) hb1);clear hb1)
       | fail)
      go_ret
      exact ⟨rfl,HB1.out⟩
  · rw [decide_eq_false e0] at h
    obtain rfl:false=q:=h;have g0:((n:Int)==0)=false:=by simp;omega
    go_enter func169,ntmps169
    go_wp2_with fail
    go_ret
    exact ⟨rfl,HB.out _⟩
theorem zQN (t:Tk) (x u:ByteArray) (A:Option Addr) (cp:Nat) (w:World) (ht:TkAt t x u A cp w) (h1:t.kind≠1) (h2:t.kind≠2) (h3:t.kind≠3) (h4:t.kind≠4) (q:Bool) (h:mayT t=q) :
 Calls prog 169 #[TkV t x u A cp] w fun e w'=>e=.returned (.bool q)∧Below w.heap.size w w':=by
 have HB:Hid (∀o,Below w.heap.size w (w.alloc o)):=hI fun o=>(Below.refl _ _).alloc (Nat.le_refl _) o
 have HTK:Hid (∀W,Below w.heap.size w W→TkAt t x u A cp W):=hI fun W hW=>ht.on hW
 have HN:Hid (x.size≤1000000):=ht.ns;have HU:Hid (u.size≤1000000):=ht.us;unfold mayT at h;rw [if_neg (fun e=>e.elim h1 h3),if_neg h2,if_neg h4] at h;obtain rfl:false=q:=h;obtain ⟨z,hz⟩:∃z:Int,(t.kind:Int)=z:=⟨_,rfl⟩;have g1:¬z=1:=by omega
 have g2:¬z=2:=by omega
 have g3:¬z=3:=by omega
 have g4:¬z=4:=by omega
 unfold TkV;rw [hz];clear ht hz h1 h2 h3 h4
 go_enter func169,ntmps169
 go_wp2_with fail
 go_ret
 exact ⟨rfl,HB.out _⟩
theorem zSV (t:Tk) (x u:ByteArray) (A:Option Addr) (cp:Nat) (w:World) (ht:TkAt t x u A cp w) (q:Bool) (h:mayT t=q) :
 Calls prog 169 #[TkV t x u A cp] w fun e w'=>e=.returned (.bool q)∧Below w.heap.size w w':=by
 by_cases h1:t.kind=1
 · exact zRF t x u A cp w ht h1 q h
 by_cases h2:t.kind=2
 · exact zRQ t x u A cp w ht h2 q h
 by_cases h3:t.kind=3
 · exact zRL t x u A cp w ht h3 q h
 by_cases h4:t.kind=4
 · exact zRh t x u A cp w ht h4 q h
 exact zQN t x u A cp w ht h1 h2 h3 h4 q h
theorem zNX (t:Tk) (x u:ByteArray) (A:Option Addr) (cp:Nat) (w:World) (ht:TkAt t x u A cp w) (q:Int) (h:zEg t=q) :
 Calls prog 138 #[TkV t x u A cp] w fun e w'=>e=.returned (.int .i64 q)∧Below w.heap.size w w':=by
 unfold zEg at h;obtain ⟨b,hb⟩:∃b,mayT t=b:=⟨_,rfl⟩;have HC:Hid (∀W,Below w.heap.size w W→Calls prog 169 #[TkV t x u A cp] W fun e w'=>e=.returned (.bool b)∧Below W.heap.size W w'):=hI fun W hW=>zSV t x u A cp W (ht.on hW) b hb
 have HB:Hid (∀o,Below w.heap.size w (w.alloc o)):=hI fun o=>(Below.refl _ _).alloc (Nat.le_refl _) o
 rw [hb] at h;unfold TkV at HC ⊢;clear hb ht
 cases b <;> (
  subst h
  go_enter func138,ntmps138
  go_wp2_with (first
   | (go_at_call 169;(with_reducible refine (HC.out _ (HB.out _)).mono ?_);rintro e1 w1 ⟨rfl,hb1⟩)
   | fail)
  go_ret
  exact ⟨rfl,stp (HB.out _) hb1⟩)
theorem zES (B b:Nat) (l L:List UInt8) (s t:ByteArray) (q:Bool) (e:Int) (w:World) (h:Bld B b l w) (hm:s.size≤1000000) (hp:putR s q=(t,e)) (hL:l++t.data.toList=L) (hl:L.length≤1000000000) (hBw:B≤w.heap.size) :
 Calls prog 170 #[.pointer (some ⟨b,0,none⟩),.string s,.bool q] w fun e' w'=>e'=.returned (.int .i64 e)∧zCG B b L w w':=by
 have hw:IntKind.i64.wrap e=e:=by rcases zM9 hp with rfl | rfl | rfl <;> rfl
 have HP:Hid (Calls prog 196 #[.string s,.bool q] w fun e' w'=>e'=.returned (.tuple #[.string t,.int .i64 e])∧Below w.heap.size w w'):=hI (put8 s t q e w hm hp);have HB:Hid (∀W,Below w.heap.size w W→Calls prog 171 #[.pointer (some ⟨b,0,none⟩),.string t] W fun e' w'=>(∃n:Int,e'=.returned (.tuple #[.int .i64 n,.nilIface]))∧zCG B b L W w'):=hI fun W hW=>bwsL B b l L t W (h.below hW) hL hl (Nat.le_trans hBw hW.size)
 have H0:Hid (B≤w.heap.size):=hBw;clear h hm hp hL hl hBw
 go_enter func170,ntmps170
 go_wp2_with (first
  | (go_at_call 196;(with_reducible refine (HP.out).mono ?_);rintro e1 w1 ⟨rfl,hb1⟩;have HB1:=hI hb1;clear hb1)
  | (go_at_call 171;(with_reducible refine (HB.out w1 HB1.out).mono ?_);rintro e2 w2 ⟨⟨n2,rfl⟩,hw2⟩)
  | fail)
 go_ret
 exact ⟨rfl,hw2.1,(HB1.out.mono H0.out).trans hw2.2.1,(OK9.of_below HB1.out).trans hw2.2.2⟩
def fitP (p:Pr):Bool:=decide ((escL true p.value).length≤16384)
def fitT (t:Tk):Bool:=if t.kind=4 then decide ((escL false t.text).length≤16384) else t.attrs.all fitP
theorem zMy {y:ByteArray} {q:Bool} (h:okT y.data.toList=true):putR y q=if (escL q y.data.toList).length≤16384 then (escS q y,0) else (⟨#[]⟩,4):=by
 unfold putR;rw [if_neg (by rw [zE8 h];decide)];have e:(escS q y).size=(escL q y.data.toList).length:=by rw [←ba_l];rfl
 rw [e]
 by_cases h2:(escL q y.data.toList).length≤16384
 · rw [if_neg (by omega),if_pos h2]
 · rw [if_pos (by omega),if_neg h2]
theorem zMn (q:Bool) (y:ByteArray):(escS q y).data.toList=escL q y.data.toList:=rfl
structure zLQ (t:Tk) (x u:ByteArray) (A:Option Addr) (cp:Nat) (B:Nat) (w:World):Prop where
 name:x.data.toList=t.name
 text:u.data.toList=t.text
 attrs:RdC PrC w B A t.attrs
 le:t.attrs.length≤cp
 ns:x.size≤1000000
 us:u.size≤1000000
 sz:∀p∈t.attrs,p.name.length≤1000000∧p.value.length≤1000000
 may:mayT t=true
theorem zHg {t:Tk} (h:mayT t=true) (h4:t.kind≠4):t.attrs.length≤16∧∀p∈t.attrs,okT p.value=true:=by
 rcases zBT h with ⟨b,_,_,h2,_⟩ | ⟨_,_,h2,_⟩ | ⟨h1,_⟩
 · rw [zFv,Bool.and_eq_true,Bool.and_eq_true,decide_eq_true_eq] at h2
   refine ⟨h2.2,fun p hp=>?_⟩;have:=List.all_eq_true.1 h2.1.2 p hp;unfold zGE at this;rw [Bool.and_eq_true] at this;exact this.2
 · rw [h2];simp
 · exact absurd h1 h4
theorem zOR {t:Tk} (h:mayT t=true) (h4:t.kind=4):okT t.text=true:=by
 unfold mayT at h;rw [if_neg (by omega),if_neg (by omega),if_pos h4,Bool.and_eq_true] at h;exact h.2
theorem zEv:∀(l:List Pr),l.all fitP=true→(∀p∈l,p.name.length≤1000000∧p.value.length≤1000000)→(l.flatMap zBU).length≤l.length*1100000
 | [],_,_=>by simp
 | p::l,h,hs=>by
  rw [List.all_cons,Bool.and_eq_true] at h;have h2:=zEv l h.2 (fun q hq=>hs q (by simp [hq]));have h3:=(hs p (by simp)).1;have h4:(escL true p.value).length≤16384:=by have:=h.1;unfold fitP at this;simpa using this
  rw [List.flatMap_cons,List.length_append,List.length_cons]
  have h5:(zBU p).length=p.name.length+(escL true p.value).length+4:=by
   unfold zBU;simp only [List.length_cons,List.length_append,List.length_nil]
   omega
  omega
theorem zRt (B b:Nat) (l:List UInt8) (t:Tk) (x u:ByteArray) (A:Option Addr) (cp:Nat) (w:World) (h:Bld B b l w) (hl:l.length≤1000000) (ht:zLQ t x u A cp B w) (hBw:B≤w.heap.size) (h4:t.kind=4) (q:Int) (hq:(if fitT t then (0:Int) else 4)=q) :
 Calls prog 139 #[.pointer (some ⟨b,0,none⟩),TkV t x u A cp] w fun e' w'=>e'=.returned (.int .i64 q)∧(q=0→Bld B b (l++zAO t) w')∧Below B w w':=by
 have hok:=zOR ht.may h4;rw [←ht.text] at hok;have hpr:=zMy (q:=false) hok;have H0:Hid (∀o,Below B w (w.alloc o)):=hI fun o=>(Below.refl _ _).alloc hBw o
 have HP:Hid (∀o,Calls prog 170 #[.pointer (some ⟨b,0,none⟩),.string u,.bool false] (w.alloc o) fun e' w'=>e'=.returned (.int .i64 q)∧(q=0→Bld B b (l++zAO t) w')∧Below B (w.alloc o) w'):=hI fun o=>by
  have hB2:B≤(w.alloc o).heap.size:=Nat.le_trans hBw (by simp);unfold fitT at hq;rw [if_pos h4,←ht.text] at hq
  by_cases hf:(escL false u.data.toList).length≤16384
  · rw [if_pos hf] at hpr
    rw [decide_eq_true hf] at hq;obtain rfl:(0:Int)=q:=by simpa using hq
    refine (zES B b l (l++zAO t) u (escS false u) false 0 (w.alloc o) (h.alloc o) ht.us hpr ?_ ?_ hB2).mono fun e' w' ⟨k1,k2⟩=>⟨k1,fun _=>k2.1,k2.2.1⟩
    · unfold zAO;rw [if_pos h4,zMn,ht.text]
    · unfold zAO;rw [if_pos h4,List.length_append,←ht.text];omega
  · rw [if_neg hf] at hpr
    rw [decide_eq_false hf] at hq;obtain rfl:(4:Int)=q:=by simpa using hq
    exact (zES B b l l u ⟨#[]⟩ false 4 (w.alloc o) (h.alloc o) ht.us hpr (by simp) (by omega) hB2).mono fun e' w' ⟨k1,k2⟩=>⟨k1,fun e=>by simp at e,k2.2.1⟩
 have hw:IntKind.i64.wrap q=q:=by rw [←hq];split <;> rfl
 unfold TkV;rw [h4];obtain ⟨n,hn⟩:∃n,t.attrs.length=n:=⟨_,rfl⟩;rw [hn];clear hn h hl ht hBw h4 hq hok hpr
 go_enter func139,ntmps139
 go_wp2_with (first
  | (go_at_call 170;(with_reducible refine (HP.out _).mono ?_);rintro e1 w1 ⟨rfl,hb1,hb2⟩)
  | fail)
 go_ret
 exact ⟨rfl,hb1,(H0.out _).trans hb2⟩
theorem zR2 (B b:Nat) (l:List UInt8) (t:Tk) (x u:ByteArray) (A:Option Addr) (cp:Nat) (w:World) (h:Bld B b l w) (hl:l.length≤1000000) (ht:zLQ t x u A cp B w) (hBw:B≤w.heap.size) (h2:t.kind=2) :
 Calls prog 139 #[.pointer (some ⟨b,0,none⟩),TkV t x u A cp] w fun e' w'=>e'=.returned (.int .i64 0)∧Bld B b (l++zAO t) w'∧Below B w w':=by
 have H0:Hid (∀o,Below B w (w.alloc o)):=hI fun o=>(Below.refl _ _).alloc hBw o
 have hns:=ht.ns
 have HW:Hid (∀o,Calls prog 171 #[.pointer (some ⟨b,0,none⟩),.string ((⟨#[60,47]⟩:ByteArray)++x++⟨#[62]⟩)] (w.alloc o) fun e' w'=>(∃n:Int,e'=.returned (.tuple #[.int .i64 n,.nilIface]))∧zCG B b (l++zAO t) (w.alloc o) w'):=hI fun o=>by
  refine bwsL B b l _ _ _ (h.alloc o) ?_ ?_ (Nat.le_trans hBw (by simp))
  · unfold zAO
    rw [if_neg (by omega),if_pos h2,zHR,zHR,ht.name]
    rfl
  · unfold zAO
    rw [if_neg (by omega),if_pos h2,←ht.name];simp only [List.length_append,List.length_cons,List.length_nil,ba_l]
    omega
 have l1:¬9223372036854775807 < 2+x.size:=by omega
 have l2:¬9223372036854775807 < 2+x.size+1:=by omega
 unfold TkV;rw [h2];obtain ⟨n,hn⟩:∃n,t.attrs.length=n:=⟨_,rfl⟩;rw [hn];clear hn h hl ht hBw h2 hns
 go_enter func139,ntmps139
 go_wp2_with (first
  | (go_at_call 171;(with_reducible refine (HW.out _).mono ?_);rintro e1 w1 ⟨⟨n1,rfl⟩,hw1⟩)
  | fail)
 go_ret
 exact ⟨rfl,hw1.1,(H0.out _).trans hw1.2.1⟩
theorem zN6 (B b:Nat) (l:List UInt8) (t:Tk) (x u:ByteArray) (A:Option Addr) (cp:Nat) (w:World) (h:Bld B b l w) (hl:l.length≤1000000) (ht:zLQ t x u A cp B w) (hBw:B≤w.heap.size) (h4:t.kind≠4) (h2:t.kind≠2) (q:Int) (hq:(if fitT t then (0:Int) else 4)=q) :
 Calls prog 139 #[.pointer (some ⟨b,0,none⟩),TkV t x u A cp] w fun e' w'=>e'=.returned (.int .i64 q)∧(q=0→Bld B b (l++zAO t) w')∧Below B w w':=by
 obtain ⟨hn16,hvs⟩:=zHg ht.may h4;unfold fitT at hq;rw [if_neg h4] at hq;have hblt:b < w.heap.size:=h.lt.2;have hns:=ht.ns;obtain ⟨n,hn⟩:∃n,t.attrs.length=n:=⟨_,rfl⟩;obtain ⟨z,hz⟩:∃z:Int,(t.kind:Int)=z:=⟨_,rfl⟩;have q4:(z==4)=false:=by simp;omega
 have q2:(z==2)=false:=by simp;omega
 obtain ⟨L0,hL0⟩:∃L0:Nat→List UInt8,∀k,L0 k=l++60::(t.name++(t.attrs.take k).flatMap zBU):=⟨_,fun _=>rfl⟩
 have hL0len:∀k,k≤n→(t.attrs.take k).all fitP=true→(L0 k).length≤20000000:=by
  intro k hk hf;have h5:=zEv _ hf (fun p hp=>ht.sz p (List.mem_of_mem_take hp));rw [List.length_take] at h5;rw [hL0,List.length_append,List.length_cons,List.length_append,←ht.name,ba_l]
  omega
 have hend:∀L:List UInt8,L=L0 n++(if z=3 then [47,62] else [62])→L=l++zAO t:=by
  intro L e;rw [e,hL0,List.take_of_length_le (by omega)];unfold zAO;rw [if_neg h4,if_neg h2]
  by_cases h3:t.kind=3
  · rw [if_pos h3,if_pos (by omega)];simp
  · rw [if_neg h3,if_neg (by omega)];simp
 have HEND:=hI hend;have HL0:=hI hL0len;have HATT:Hid (RdC PrC w B A t.attrs):=ht.attrs;have HSZ:=hI ht.sz;have HVS:=hI hvs;have HQ:=hI hq;have HN:=hI hn;have HBW:Hid (B≤w.heap.size):=hBw;have HBLT:=hI hblt
 have HW0:Hid (∀o,Calls prog 171 #[.pointer (some ⟨b,0,none⟩),.string ((⟨#[60]⟩:ByteArray)++x)] (w.alloc o) fun e' w'=>(∃n:Int,e'=.returned (.tuple #[.int .i64 n,.nilIface]))∧zCG B b (L0 0) (w.alloc o) w'):=hI fun o=>by
  refine bwsL B b l _ _ _ (h.alloc o) ?_ ?_ (Nat.le_trans hBw (by simp))
  · rw [hL0,zHR,ht.name];simp
  · have:=hL0len 0 (Nat.zero_le _) rfl;omega
 have HSTEP:Hid (∀k (hk:k < t.attrs.length),L0 (k+1)=L0 k++zBU (t.attrs[k]'hk)):=hI fun k hk=>by
  rw [hL0,hL0,List.take_succ_eq_append_getElem hk,List.flatMap_append]
  simp [-List.take_append_getElem]
 have l1:¬9223372036854775807 < 1+x.size:=by omega
 have hw:IntKind.i64.wrap q=q:=by rw [←hq];split <;> rfl
 unfold TkV;rw [hz,hn];have HN16:Hid (n≤16):=hI (by omega);clear hn h ht h4 h2 hq hns hz hL0 hL0len hend hvs hn16 hBw hblt hl
 go_enter func139,ntmps139
 go_wp2_with (first
  | (go_at_call 171;(with_reducible refine (HW0.out _).mono ?_);rintro e1 w1 ⟨⟨n1,rfl⟩,hw1⟩;have HG1:=hI (hw1.2.2.stay (heap_alloc_new w (.cells #[.int .u8 z,.string x,.slice A n cp,.string u] 131)) (Nat.ne_of_gt HBLT.out) (by decide));have c2:=zAA w1 w.heap.size 2 _ _ _ HG1.out;have HW1:=hI hw1;clear hw1)
  | fail)
 obtain ⟨wo,rfl⟩:∃wo:World,wo=w1:=⟨_,rfl⟩
 go_loopg [32] n (fun gg vi wr=>∃k:Nat,k+gg=n∧vi=.int .i64 k∧(t.attrs.take k).all fitP=true∧zCG B b (L0 k) wo wr)
 case atStart=>exact ⟨0,by omega,rfl,rfl,HW1.out.1,Below.refl _ _,Lib.OthersKept.refl _ _ _⟩
 case round =>
  obtain ⟨k,hk,rfl,hall,hwr⟩:=hrel;have HWR:=hI hwr;have hgr:=hwr.2.2.stay HG1.out (Nat.ne_of_gt HBLT.out) (by decide);have c0:=zAA wr w.heap.size 0 _ _ _ hgr;have HGR:=hI hgr;have HB0:Hid (Below B w wr):=hI ((((Below.refl _ _).alloc HBW.out _).trans HW1.out.2.1).trans hwr.2.1);have HBR:Hid (B≤wr.heap.size):=hI (Nat.le_trans HBW.out HB0.out.size);have hgrow:w.heap.size < wr.heap.size:=(Array.getElem?_eq_some_iff.1 hgr).1;have HBLR:Hid (b < wr.heap.size):=hI (by have:=HBLT.out;omega);have hn16:=HN16.out
  by_cases hlt:k < n
  · have hk1:k < t.attrs.length:=by rw [HN.out];exact hlt
    obtain ⟨b0,off,rfl,hbB,hc⟩:=(HATT.out.below HB0.out) (by omega);obtain ⟨cs,⟨nm,vl,rfl,hnm,hvl⟩,hcell⟩:=hc k hk1;have d0:wr.cell? ⟨b0,off+k*2,none⟩=some (.string nm):=hcell 0 (by simp);have d1:wr.cell? ⟨b0,off+k*2+1,none⟩=some (.string vl):=hcell 1 (by simp);have hz2:=HSZ.out _ (List.getElem_mem hk1);rw [←hvl,←hnm,ba_l,ba_l] at hz2;have hok:=HVS.out _ (List.getElem_mem hk1);rw [←hvl] at hok;have hpr:=zMy (q:=true) hok;have hLk:=HL0.out k (by omega) hall;have hst:=HSTEP.out k hk1;have hfit:fitP (t.attrs[k]'hk1)=decide ((escL true vl.data.toList).length≤16384):=by unfold fitP;rw [hvl]
    have bk:(0:Int)≤(k:Int)∧(k:Int) < (n:Int):=by omega
    have bc:(k:Int)≤(cp:Int)∨True:=.inr trivial;have hnms:=hz2.1;have l2:¬9223372036854775807 < 1+nm.size:=by omega
    have l3:¬9223372036854775807 < 1+nm.size+2:=by omega
    obtain ⟨L1,hL1⟩:∃L1,L1=L0 k++32::(nm.data.toList++[61,34]):=⟨_,rfl⟩;have hL1len:L1.length≤30000000:=by rw [hL1];simp only [List.length_append,List.length_cons,List.length_nil,ba_l];omega
    have HWN:Hid (∀o,Calls prog 171 #[.pointer (some ⟨b,0,none⟩),.string ((⟨#[32]⟩:ByteArray)++nm++⟨#[61,34]⟩)] (wr.alloc o) fun e' w'=>(∃n:Int,e'=.returned (.tuple #[.int .i64 n,.nilIface]))∧zCG B b L1 (wr.alloc o) w'):=hI fun o=>by
     refine bwsL B b (L0 k) _ _ _ (hwr.1.alloc o) ?_ (by omega) (Nat.le_trans HBR.out (by simp));rw [hL1,zHR,zHR];simp
    by_cases hf:(escL true vl.data.toList).length≤16384
    · rw [if_pos hf] at hpr
      rw [decide_eq_true hf] at hfit;obtain ⟨L2,hL2⟩:∃L2,L2=L1++(escS true vl).data.toList:=⟨_,rfl⟩;have hL2len:L2.length≤40000000:=by rw [hL2,List.length_append,zMn];omega
      have HPT:Hid (∀W,Bld B b L1 W→B≤W.heap.size→Calls prog 170 #[.pointer (some ⟨b,0,none⟩),.string vl,.bool true] W fun e' w'=>e'=.returned (.int .i64 0)∧zCG B b L2 W w'):=hI fun W hW hB=>zES B b L1 L2 vl _ true 0 W hW hz2.2 hpr hL2.symm (by omega) hB
      have HWQ:Hid (∀W,Bld B b L2 W→B≤W.heap.size→Calls prog 171 #[.pointer (some ⟨b,0,none⟩),.string ⟨#[34]⟩] W fun e' w'=>(∃n:Int,e'=.returned (.tuple #[.int .i64 n,.nilIface]))∧zCG B b (L0 (k+1)) W w'):=hI fun W hW hB=>by
       refine bwsL B b L2 _ _ W hW ?_ ?_ hB
       · rw [hst,hL2,hL1,zMn,hvl,hnm];simp [zBU]
       · have:=HL0.out (k+1) (by omega) (by rw [zE3 hk1,hall,hfit];rfl);omega
      have HNX:Hid ((t.attrs.take (k+1)).all fitP=true):=hI (by rw [zE3 hk1,hall,hfit];rfl);have HWA:Hid (∀o,zCG B b (L0 k) wo (wr.alloc o)):=hI fun o=>hwr.of_below ((Below.refl _ _).alloc (Nat.le_refl _) o) (by have:=(Array.getElem?_eq_some_iff.1 HG1.out).1;have:=HBW.out;omega)
      clear hwr hgr hc hcell hnm hvl hz2 hok hpr hLk hst hfit hL1 hL1len hL2 hL2len hf hall hk1;have tok1:True:=trivial
      go_wp2_with (first
       | (refine wpList_store_row rfl _ _ _ rfl wr.heap.size #[.string nm,.string vl] rfl rfl 187 zPr9 (heap_alloc_new _ _) zEI rfl (zIg nm vl) ?_;rw [World.setRow_alloc_new])
       | (have _t:=tok1;go_at_call 171;(with_reducible refine (HWN.out _).mono ?_);rintro e2 w2 ⟨⟨n2,rfl⟩,hw2⟩;have g1:=zAA w2 wr.heap.size 1 _ _ _ (hw2.2.2.stay (heap_alloc_new wr (.cells #[.string nm,.string vl] 187)) (Nat.ne_of_gt HBLR.out) (by decide));have HW2:=hI ((HWA.out _).trans hw2);have HS2:Hid (B≤w2.heap.size):=hI (Nat.le_trans (Nat.le_trans HBR.out (by simp)) hw2.size);clear hw2 _t tok1)
       | (go_at_call 170;(with_reducible refine (HPT.out w2 HW2.out.1 HS2.out).mono ?_);rintro e3 w3 ⟨rfl,hw3⟩;have HW3:=hI (HW2.out.trans hw3);have HS3:Hid (B≤w3.heap.size):=hI (Nat.le_trans HS2.out hw3.size);clear hw3)
       | (go_at_call 171;(with_reducible refine (HWQ.out w3 HW3.out.1 HS3.out).mono ?_);rintro e4 w4 ⟨⟨n4,rfl⟩,hw4⟩;have HW4:=hI (HW3.out.trans hw4);clear hw4)
       | fail)
      go_roundg (gk - 1)
      case rel=>exact ⟨k+1,by omega,by go_num,HNX.out,HW4.out⟩
      case measure=>omega
    · rw [if_neg hf] at hpr
      rw [decide_eq_false hf] at hfit
      obtain rfl:(4:Int)=q:=by
       rw [←HQ.out,if_neg];intro hh;have:=List.all_eq_true.1 hh _ (List.getElem_mem hk1);rw [hfit] at this
       cases this
      have HPT:Hid (∀W,Bld B b L1 W→B≤W.heap.size→Calls prog 170 #[.pointer (some ⟨b,0,none⟩),.string vl,.bool true] W fun e' w'=>e'=.returned (.int .i64 4)∧zCG B b L1 W w'):=hI fun W hW hB=>zES B b L1 L1 vl _ true 4 W hW hz2.2 hpr (by simp) (by omega) hB
      have HBA:Hid (∀o,Below B w (wr.alloc o)):=hI fun o=>HB0.out.alloc HBR.out o
      clear hwr hgr hc hcell hnm hvl hz2 hok hpr hLk hst hfit hL1 hL1len hf hall hk1 hn16
      go_wp2_with (first
       | (refine wpList_store_row rfl _ _ _ rfl wr.heap.size #[.string nm,.string vl] rfl rfl 187 zPr9 (heap_alloc_new _ _) zEI rfl (zIg nm vl) ?_;rw [World.setRow_alloc_new])
       | (go_at_call 171;(with_reducible refine (HWN.out _).mono ?_);rintro e2 w2 ⟨⟨n2,rfl⟩,hw2⟩;have g1:=zAA w2 wr.heap.size 1 _ _ _ (hw2.2.2.stay (heap_alloc_new wr (.cells #[.string nm,.string vl] 187)) (Nat.ne_of_gt HBLR.out) (by decide));have HW2:=hI hw2;have HS2:Hid (B≤w2.heap.size):=hI (Nat.le_trans (Nat.le_trans HBR.out (by simp)) hw2.size);clear hw2)
       | (go_at_call 170;(with_reducible refine (HPT.out w2 HW2.out.1 HS2.out).mono ?_);rintro e3 w3 ⟨rfl,hw3⟩)
       | fail)
      go_ret
      exact ⟨rfl,by first | trivial | (intro e;simp at e),((HBA.out _).trans HW2.out.2.1).trans hw3.2.1⟩
  · obtain rfl:n=k:=by omega
    obtain rfl:(0:Int)=q:=by
     rw [List.take_of_length_le (by rw [HN.out];exact Nat.le_refl _)] at hall;rw [←HQ.out,if_pos hall]
    have hLn:=HL0.out n (Nat.le_refl _) hall
    by_cases h3:z=3
    · have q3:(z==3)=true:=by simpa using h3
      have HWS:Hid (Calls prog 171 #[.pointer (some ⟨b,0,none⟩),.string ⟨#[47]⟩] wr fun e' w'=>(∃n:Int,e'=.returned (.tuple #[.int .i64 n,.nilIface]))∧zCG B b (L0 n++[47]) wr w'):=hI (bwsL B b (L0 n) _ _ wr hwr.1 rfl (by rw [List.length_append];show (L0 n).length+1≤_;omega) HBR.out)
      have HWG:Hid (∀W,Bld B b (L0 n++[47]) W→B≤W.heap.size→Calls prog 171 #[.pointer (some ⟨b,0,none⟩),.string ⟨#[62]⟩] W fun e' w'=>(∃n:Int,e'=.returned (.tuple #[.int .i64 n,.nilIface]))∧zCG B b (l++zAO t) W w'):=hI fun W hW hB=>by
       refine bwsL B b _ _ _ W hW (HEND.out _ (by rw [if_pos h3];simp)) ?_ hB;rw [←HEND.out _ rfl,if_pos h3,List.length_append];show (L0 n).length+2≤_
       omega
      clear hwr hgr hall hn16 hLn;have tok1:True:=trivial
      go_wp2_with (first
       | (have _t:=tok1;go_at_call 171;(with_reducible refine (HWS.out).mono ?_);rintro e2 w2 ⟨⟨n2,rfl⟩,hw2⟩;have HW2:=hI hw2;have HS2:Hid (B≤w2.heap.size):=hI (Nat.le_trans HBR.out hw2.size);clear hw2 _t tok1)
       | (go_at_call 171;(with_reducible refine (HWG.out w2 HW2.out.1 HS2.out).mono ?_);rintro e3 w3 ⟨⟨n3,rfl⟩,hw3⟩)
       | fail)
      go_ret
      exact ⟨rfl,by first | exact hw3.1 | exact fun _=>hw3.1,(HB0.out.trans HW2.out.2.1).trans hw3.2.1⟩
    · have q3:(z==3)=false:=by simpa using h3
      have HWG:Hid (Calls prog 171 #[.pointer (some ⟨b,0,none⟩),.string ⟨#[62]⟩] wr fun e' w'=>(∃n:Int,e'=.returned (.tuple #[.int .i64 n,.nilIface]))∧zCG B b (l++zAO t) wr w'):=hI (by
       refine bwsL B b _ _ _ wr hwr.1 (HEND.out _ (by rw [if_neg h3])) ?_ HBR.out;rw [←HEND.out _ rfl,if_neg h3,List.length_append];show (L0 n).length+1≤_
       omega)
      clear hwr hgr hall hn16 hLn
      go_wp2_with (first
       | (go_at_call 171;(with_reducible refine (HWG.out).mono ?_);rintro e3 w3 ⟨⟨n3,rfl⟩,hw3⟩)
       | fail)
      go_ret
      exact ⟨rfl,by first | exact hw3.1 | exact fun _=>hw3.1,HB0.out.trans hw3.2.1⟩
theorem put9 (B b:Nat) (l:List UInt8) (t:Tk) (x u:ByteArray) (A:Option Addr) (cp:Nat) (w:World) (h:Bld B b l w) (hl:l.length≤1000000) (ht:zLQ t x u A cp B w) (hBw:B≤w.heap.size) (q:Int) (hq:(if fitT t then (0:Int) else 4)=q) :
 Calls prog 139 #[.pointer (some ⟨b,0,none⟩),TkV t x u A cp] w fun e' w'=>e'=.returned (.int .i64 q)∧(q=0→Bld B b (l++zAO t) w')∧Below B w w':=by
 by_cases h4:t.kind=4
 · exact zRt B b l t x u A cp w h hl ht hBw h4 q hq
 by_cases h2:t.kind=2
 · have:t.attrs=[]:=by
    rcases zBT ht.may with ⟨b,h1,_⟩ | ⟨_,_,h3,_⟩ | ⟨h1,_⟩
    · rw [h2] at h1;cases b <;> simp at h1
    · exact h3
    · exact absurd h1 h4
   obtain rfl:(0:Int)=q:=by rw [←hq];unfold fitT;rw [if_neg h4,this];rfl
   exact (zR2 B b l t x u A cp w h hl ht hBw h2).mono fun e w' ⟨k1,k2,k3⟩=>⟨k1,fun _=>k2,k3⟩
 · exact zN6 B b l t x u A cp w h hl ht hBw h4 h2 q hq
def wasT (l:List Tk):Nat→Bool
 | 0=>false
 | k+1=>match l[k]? with | some t=>decide (t.kind=4) | none=>false
theorem zFH {l:List Tk} {k:Nat} (h:k < l.length):wasT l (k+1)=decide ((l[k]'h).kind=4):=by
 show (match l[k]? with | some t=>decide (t.kind=4) | none=>false)=_;rw [List.getElem?_eq_getElem h]
theorem zOL {l:List Tk} {k:Nat} (h:k < l.length) (hp:zBx (l.take k)=true) (hb:(decide ((l[k]'h).kind=4)&&wasT l k)=false):zBx (l.take (k+1))=true:=by
 cases k with
 | zero =>
  cases l with
  | nil=>rfl
  | cons a r=>rfl
 | succ k =>
  refine zKl (by omega) h hp ?_;rw [zFH (by omega)] at hb;rintro ⟨h1,h2⟩;have h1':(l[k]'(by omega)).kind=4:=by simpa using h1
  simp [h1',h2] at hb
theorem zLp {l:List Tk} {k:Nat} (h:k < l.length) (hb:(decide ((l[k]'h).kind=4)&&wasT l k)=true):zBx l=false:=by
 cases k with
 | zero=>simp [wasT] at hb
 | succ k =>
  rw [zFH (by omega),Bool.and_eq_true,decide_eq_true_eq,decide_eq_true_eq] at hb;exact zNW (by omega) h (by simpa using hb.2) hb.1
theorem zOM (l:List Tk) (k:Nat):((l.take k).flatMap zAO).length≤(l.flatMap zAO).length:=by
 conv=>rhs;rw [←List.take_append_drop k l]
 rw [List.flatMap_append,List.length_append]
 omega
theorem zKn {l:List Tk} {k:Nat} (h:k < l.length):(l.take (k+1)).flatMap zAO=(l.take k).flatMap zAO++zAO (l[k]'h):=by
 rw [List.take_succ_eq_append_getElem h,List.flatMap_append]
 simp [-List.take_append_getElem]
theorem zJ2:∀(l:List Pr),l.all fitP=false→16384 < (l.flatMap zBU).length
 | [],h=>by cases h
 | p::l,h=>by
  rw [List.flatMap_cons,List.length_append];rw [List.all_cons] at h
  cases hf:fitP p with
  | true =>
   rw [hf,Bool.true_and] at h;have:=zJ2 l h
   omega
  | false =>
   have h4:16384 < (escL true p.value).length:=by unfold fitP at hf;simpa using hf
   have h5:(zBU p).length=p.name.length+(escL true p.value).length+4:=by
    unfold zBU;simp only [List.length_cons,List.length_append,List.length_nil]
    omega
   omega
theorem zQY {t:Tk} (hm:mayT t=true) (h:fitT t=false):16384 < (zAO t).length:=by
 unfold fitT at h;unfold zAO
 by_cases h4:t.kind=4
 · rw [if_pos h4] at h ⊢
   simpa using h
 · rw [if_neg h4] at h ⊢
   have:=zJ2 t.attrs h
   by_cases h2:t.kind=2
   · rcases zBT hm with ⟨b,h1,_⟩ | ⟨_,_,h3,_⟩ | ⟨h1,_⟩
     · rw [h2] at h1;cases b <;> simp at h1
     · rw [h3] at h;cases h
     · exact absurd h1 h4
   · rw [if_neg h2]
     simp only [List.length_cons,List.length_append]
     omega
theorem zKV {t:Tk} (hm:mayT t=true) (h:fitT t=true) (hs:zCr t):(zAO t).length≤30000000:=by
 obtain ⟨s1,s2,s3,s4⟩:=hs;unfold fitT at h;unfold zAO
 by_cases h4:t.kind=4
 · rw [if_pos h4] at h ⊢
   simp at h
   omega
 · rw [if_neg h4] at h ⊢
   by_cases h2:t.kind=2
   · rw [if_pos h2]
     simp only [List.length_cons,List.length_append,List.length_nil]
     omega
   · rw [if_neg h2]
     have h5:=zEv t.attrs h s4;have h6:=(zHg hm h4).1;simp only [List.length_cons,List.length_append]
     split <;> simp only [List.length_cons,List.length_nil] <;> omega
theorem zRV (l:List UInt8):(⟨l.toArray⟩:ByteArray).data.toList=l:=by simp
theorem zRX (A:Option Addr) (n cp:Nat) (l:List Tk) (w:World) (hr:RdC TkC w w.heap.size A l) (hn:l.length=n) (hm:n≤1000000) (hsz:∀t∈l,zCr t) (s:ByteArray) (e:Int) (h:zDH l=(s.data.toList,e)) :
 Calls prog 102 #[.slice A n cp] w fun e' w'=>e'=.returned (.tuple #[.string s,.int .i64 e])∧Below w.heap.size w w':=by
 have HR:=hI hr;have HN:=hI hn;have HM:=hI hm;have HSZ:=hI hsz
 have HBad:Hid (¬(l.all mayT=true∧zBx l=true)→s=⟨#[]⟩∧e=8):=hI (by
  intro hb;unfold zDH at h;rw [if_neg hb] at h;obtain ⟨h1,h2⟩:=(Prod.mk.injEq _ _ _ _).mp h;exact ⟨ba_x (by rw [←h1]),h2.symm⟩)
 have HMany:Hid (l.all mayT=true→zBx l=true→(512 < n∨16384 < (l.flatMap zAO).length)→s=⟨#[]⟩∧e=4):=hI (by
  intro h1 h2 h3;unfold zDH at h;rw [if_pos ⟨h1,h2⟩,hn,if_pos h3] at h;obtain ⟨h1,h2⟩:=(Prod.mk.injEq _ _ _ _).mp h;exact ⟨ba_x (by rw [←h1]),h2.symm⟩)
 have HGood:Hid (l.all mayT=true→zBx l=true→n≤512→(l.flatMap zAO).length≤16384→s=⟨(l.flatMap zAO).toArray⟩∧e=0):=hI (by
  intro h1 h2 h3 h4;unfold zDH at h;rw [if_pos ⟨h1,h2⟩,hn,if_neg (by omega)] at h;obtain ⟨h1,h2⟩:=(Prod.mk.injEq _ _ _ _).mp h;exact ⟨ba_x (by rw [←h1]),h2.symm⟩)
 clear hr hn h hsz
 go_enter func102,ntmps102
 go_wp2_with fail
 go_loopg [4,15] n (fun gg vb vi wr=>∃(k:Nat) (b:Bool),k+gg=n∧vi=.int .i64 k∧vb=.bool b∧wasT l k=b∧(l.take k).all mayT=true∧zBx (l.take k)=true∧Below w.heap.size w wr)
 case atStart=>exact ⟨0,false,by omega,rfl,rfl,rfl,rfl,rfl,Below.refl _ _⟩
 case round =>
  obtain ⟨k,b,hk,rfl,rfl,hwas,hall,hap,hbw⟩:=hrel;have hMM:=HM.out;have HBW:=hI hbw
  by_cases hlt:k < n
  · have hk1:k < l.length:=by rw [HN.out];exact hlt
    obtain ⟨b0,off,x,u,a1,p1,rfl,hbB,c0,c1,c2,c3,htk⟩:=zSN (HR.out.on hbw) hk1 (HSZ.out _ (List.getElem_mem hk1));obtain ⟨t,ht⟩:∃t,l[k]'hk1=t:=⟨_,rfl⟩;rw [ht] at c0 c2 htk;obtain ⟨z,hz⟩:∃z:Int,(t.kind:Int)=z:=⟨_,rfl⟩;obtain ⟨m,hmm⟩:∃m,t.attrs.length=m:=⟨_,rfl⟩;obtain ⟨q,hq⟩:∃q,zEg t=q:=⟨_,rfl⟩
    have HCK:Hid (∀o,Calls prog 138 #[.agg #[.int .u8 z,.string x,.slice a1 m p1,.string u]] (wr.alloc o) fun e w'=>e=.returned (.int .i64 q)∧Below (wr.alloc o).heap.size (wr.alloc o) w'):=hI fun o=>by
     have:=zNX t x u a1 p1 (wr.alloc o) (htk.on ((Below.refl _ _).alloc (Nat.le_refl _) o)) q hq;unfold TkV at this;rw [hz,hmm] at this;exact this
    rw [hz] at c0;rw [hmm] at c2;have HBO:Hid (∀o,Below w.heap.size w (wr.alloc o)):=hI fun o=>hbw.alloc hbw.size o
    have hcs:(q=0∧mayT t=true)∨(q=8∧mayT t=false):=by
     unfold zEg at hq
     cases hmt:mayT t with
     | true=>rw [hmt] at hq;exact .inl ⟨hq.symm,rfl⟩
     | false=>rw [hmt] at hq;exact .inr ⟨hq.symm,rfl⟩
    have bk:(0:Int)≤(k:Int)∧(k:Int) < (n:Int):=by omega
    rcases hcs with ⟨rfl,hmt⟩ | ⟨rfl,hmt⟩
    · have hall':(l.take (k+1)).all mayT=true:=by rw [List.take_succ_eq_append_getElem hk1,List.all_append,hall,ht];simp [hmt]
      have HALL:=hI hall';have hnew:=zFH hk1;rw [ht] at hnew;have hon:=fun hb=>zOL hk1 hap hb
      have hoff:=fun hb=>zLp hk1 hb
      rw [ht,hwas] at hon hoff
      by_cases h4:z=4
      · have q4:(z==4)=true:=by simpa using h4
        rw [show t.kind=4 by omega] at hon hoff hnew
        cases b with
        | true =>
         obtain ⟨rfl,rfl⟩:=HBad.out (fun hh=>by rw [hoff (by decide)] at hh;exact absurd hh.2 (by decide));clear ht htk hbw hall hap hwas hz hmm hq hall' hnew hon hoff hmt h4
         go_wp2_with (first
          | (refine wpList_store_row rfl _ _ _ rfl wr.heap.size #[.int .u8 z,.string x,.slice a1 m p1,.string u] rfl rfl 131 zTk (heap_alloc_new _ _) zAo rfl (zCs _ _ _ _) ?_;rw [World.setRow_alloc_new])
          | (refine wpList_load_row rfl _ _ rfl wr.heap.size rfl 131 #[.int .u8 z,.string x,.slice a1 m p1,.string u] (0,0) _ (heap_alloc_new _ _) underlying131 rfl zAo ?_)
          | (go_at_call 138;(with_reducible refine (HCK.out _).mono ?_);rintro e1 w1 ⟨rfl,hb1⟩;have d0:=(zCx hb1 0 (.int .u8 z) rfl).1;have HB1:Hid (Below w.heap.size w w1):=hI (stp (HBO.out _) hb1);clear hb1)
          | fail)
         go_ret2
         exact ⟨rfl,HB1.out⟩
        | false =>
         have HON:=hI (hon (by decide));have HNEW:Hid (wasT l (k+1)=true):=hI (by rw [hnew];rfl);clear ht htk hbw hall hap hwas hz hmm hq hall' hnew hon hoff hmt h4
         go_wp2_with (first
          | (refine wpList_store_row rfl _ _ _ rfl wr.heap.size #[.int .u8 z,.string x,.slice a1 m p1,.string u] rfl rfl 131 zTk (heap_alloc_new _ _) zAo rfl (zCs _ _ _ _) ?_;rw [World.setRow_alloc_new])
          | (refine wpList_load_row rfl _ _ rfl wr.heap.size rfl 131 #[.int .u8 z,.string x,.slice a1 m p1,.string u] (0,0) _ (heap_alloc_new _ _) underlying131 rfl zAo ?_)
          | (go_at_call 138;(with_reducible refine (HCK.out _).mono ?_);rintro e1 w1 ⟨rfl,hb1⟩;have d0:=(zCx hb1 0 (.int .u8 z) rfl).1;have HB1:Hid (Below w.heap.size w w1):=hI (stp (HBO.out _) hb1);clear hb1)
          | fail)
         go_roundg (gk - 1)
         case rel=>exact ⟨k+1,true,by omega,by go_num,by first | rfl | simp,HNEW.out,HALL.out,HON.out,HB1.out⟩
         case measure=>omega
      · have q4:(z==4)=false:=by simpa using h4
        rw [decide_eq_false (show ¬t.kind=4 by omega),Bool.false_and] at hon hoff;rw [decide_eq_false (show ¬t.kind=4 by omega)] at hnew;have HON:=hI (hon rfl);have HNEW:=hI hnew;clear ht htk hbw hall hap hwas hz hmm hq hall' hnew hon hoff hmt h4
        go_wp2_with (first
         | (refine wpList_store_row rfl _ _ _ rfl wr.heap.size #[.int .u8 z,.string x,.slice a1 m p1,.string u] rfl rfl 131 zTk (heap_alloc_new _ _) zAo rfl (zCs _ _ _ _) ?_;rw [World.setRow_alloc_new])
         | (refine wpList_load_row rfl _ _ rfl wr.heap.size rfl 131 #[.int .u8 z,.string x,.slice a1 m p1,.string u] (0,0) _ (heap_alloc_new _ _) underlying131 rfl zAo ?_)
         | (go_at_call 138;(with_reducible refine (HCK.out _).mono ?_);rintro e1 w1 ⟨rfl,hb1⟩;have d0:=(zCx hb1 0 (.int .u8 z) rfl).1;have HB1:Hid (Below w.heap.size w w1):=hI (stp (HBO.out _) hb1);clear hb1)
         | fail)
        go_roundg (gk - 1)
        case rel=>exact ⟨k+1,false,by omega,by go_num,by first | rfl | simp,HNEW.out,HALL.out,HON.out,HB1.out⟩
        case measure=>omega
    · obtain ⟨rfl,rfl⟩:=HBad.out (fun hh=>by
       have:=List.all_eq_true.1 hh.1 _ (List.getElem_mem hk1);rw [ht,hmt] at this
       cases this)
      clear ht htk hbw hall hap hwas hz hmm hq hmt
      go_wp2_with (first
       | (refine wpList_store_row rfl _ _ _ rfl wr.heap.size #[.int .u8 z,.string x,.slice a1 m p1,.string u] rfl rfl 131 zTk (heap_alloc_new _ _) zAo rfl (zCs _ _ _ _) ?_;rw [World.setRow_alloc_new])
       | (refine wpList_load_row rfl _ _ rfl wr.heap.size rfl 131 #[.int .u8 z,.string x,.slice a1 m p1,.string u] (0,0) _ (heap_alloc_new _ _) underlying131 rfl zAo ?_)
       | (go_at_call 138;(with_reducible refine (HCK.out _).mono ?_);rintro e1 w1 ⟨rfl,hb1⟩;have HB1:Hid (Below w.heap.size w w1):=hI (stp (HBO.out _) hb1);clear hb1)
       | fail)
      go_ret2
      exact ⟨rfl,HB1.out⟩
  · obtain rfl:n=k:=by omega
    have HAll:Hid (l.all mayT=true):=hI (by rwa [List.take_of_length_le (by rw [HN.out];exact Nat.le_refl _)] at hall);have HAp:Hid (zBx l=true):=hI (by rwa [List.take_of_length_le (by rw [HN.out];exact Nat.le_refl _)] at hap);clear hall hap hwas hbw hlt hk
    by_cases h5:512 < n
    · have g5:decide ((512:Int) < (n:Int))=true:=decide_eq_true (by omega)
      obtain ⟨rfl,rfl⟩:=HMany.out HAll.out HAp.out (.inl h5);clear h5
      go_wp2_with fail
      go_ret2
      exact ⟨rfl,HBW.out⟩
    · have g5:decide ((512:Int) < (n:Int))=false:=decide_eq_false (by omega)
      have H5:Hid (n≤512):=hI (by omega);clear h5;obtain ⟨B,hB⟩:∃B,wr.heap.size=B:=⟨_,rfl⟩;have hnewB:=zIW wr;rw [hB] at hnewB;have HNB:=hI hnewB;have HRW:Hid (RdC TkC wr B A l):=hI (hB ▸ HR.out.on HBW.out);have HBX:Hid (∀o,Below B wr (wr.alloc o)):=hI fun o=>(Below.refl _ _).alloc (by omega) o
      have HWB:Hid (∀W,Below B wr W→Below w.heap.size w W):=hI fun W hW=>HBW.out.trans (hW.mono (by have:=HBW.out.size;omega))
      have HSB:Hid (wr.heap.size=B):=hB;clear hnewB
      go_wp2_with fail
      obtain ⟨wo,rfl⟩:∃wo:World,wo=wr:=⟨_,rfl⟩
      go_loopg [38] n (fun gg vi wr=>∃(k:Nat),k+gg=n∧vi=.int .i64 k∧((l.take k).flatMap zAO).length≤16384∧Bld B B ((l.take k).flatMap zAO) wr∧Below B wo wr)
      case atStart=>exact ⟨0,by omega,rfl,Nat.zero_le _,HNB.out,HBX.out _⟩
      case round =>
       obtain ⟨k,hk,rfl,hlen,hbld,hbo⟩:=hrel;have HBO2:=hI hbo;have HBD:=hI hbld;have HSW:Hid (B≤wr.heap.size):=hI (HSB.out ▸ hbo.size)
       by_cases hlt:k < n
       · have hk1:k < l.length:=by rw [HN.out];exact hlt
         obtain ⟨t,ht⟩:∃t,l[k]'hk1=t:=⟨_,rfl⟩;have hsm:=HSZ.out _ (List.getElem_mem hk1);have hmt:=List.all_eq_true.1 HAll.out _ (List.getElem_mem hk1);obtain ⟨b0,off,rfl,hbB,hc⟩:=(HRW.out.below hbo) (by omega);obtain ⟨cs,⟨x,a1,p1,u,rfl,hkd,hx,hu,hle,hmx,hnl,hrd⟩,hcell⟩:=hc k hk1;have c0:wr.cell? ⟨b0,off+k*4,none⟩=some (.int .u8 ((l[k]'hk1).kind:Int)):=hcell 0 (by simp);have c1:wr.cell? ⟨b0,off+k*4+1,none⟩=some (.string x):=hcell 1 (by simp);have c2:wr.cell? ⟨b0,off+k*4+2,none⟩=some (.slice a1 (l[k]'hk1).attrs.length p1):=hcell 2 (by simp);have c3:wr.cell? ⟨b0,off+k*4+3,none⟩=some (.string u):=hcell 3 (by simp);have hsn:=zKn hk1;have hle2:=zOM l (k+1);rw [ht] at hsm hmt hx hu hle hrd c0 c2 hsn;have hpa:zLQ t x u a1 p1 B wr:=⟨hx,hu,hrd,hle,by rw [←ba_l,hx];exact hsm.1,by rw [←ba_l,hu];exact hsm.2.1,hsm.2.2.2,hmt⟩;obtain ⟨z,hz⟩:∃z:Int,(t.kind:Int)=z:=⟨_,rfl⟩;obtain ⟨m,hmm⟩:∃m,t.attrs.length=m:=⟨_,rfl⟩;obtain ⟨q,hq⟩:∃q:Int,(if fitT t then (0:Int) else 4)=q:=⟨_,rfl⟩
         have HPUT:Hid (∀o,Calls prog 139 #[.pointer (some ⟨B,0,none⟩),.agg #[.int .u8 z,.string x,.slice a1 m p1,.string u]] (wr.alloc o) fun e w'=>e=.returned (.int .i64 q)∧(q=0→Bld B B ((l.take k).flatMap zAO++zAO t) w')∧Below B (wr.alloc o) w'):=hI fun o=>by
          have hbo2:Below B wr (wr.alloc o):=(Below.refl _ _).alloc HSW.out o;have:=put9 B B ((l.take k).flatMap zAO) t x u a1 p1 (wr.alloc o) (hbld.alloc o) (by omega) ⟨hpa.name,hpa.text,hpa.attrs.below hbo2,hpa.le,hpa.ns,hpa.us,hpa.sz,hpa.may⟩ (Nat.le_trans HSW.out (by simp)) q hq;unfold TkV at this;rw [hz,hmm] at this;exact this
         rw [hz] at c0;rw [hmm] at c2;have HBO3:Hid (∀o,Below B wo (wr.alloc o)):=hI fun o=>hbo.alloc HSW.out o
         have bk:(0:Int)≤(k:Int)∧(k:Int) < (n:Int):=by omega
         cases hfit:fitT t with
         | false =>
          rw [hfit] at hq;obtain rfl:(4:Int)=q:=by simpa using hq
          have hbig:=zQY hmt hfit;obtain ⟨rfl,rfl⟩:=HMany.out HAll.out HAp.out (.inr (by rw [hsn,List.length_append] at hle2;omega));clear ht hsm hmt hc hx hu hle hmx hnl hrd hcell hsn hle2 hpa hz hmm hq hfit hbig hlen hbld hbo hkd hk1
          go_wp2_with (first
           | (refine wpList_store_row rfl _ _ _ rfl wr.heap.size #[.int .u8 z,.string x,.slice a1 m p1,.string u] rfl rfl 131 zTk (heap_alloc_new _ _) zAo rfl (zCs _ _ _ _) ?_;rw [World.setRow_alloc_new])
           | (refine wpList_load_row rfl _ _ rfl wr.heap.size rfl 131 #[.int .u8 z,.string x,.slice a1 m p1,.string u] (0,0) _ (heap_alloc_new _ _) underlying131 rfl zAo ?_)
           | (go_at_call 139;(with_reducible refine (HPUT.out _).mono ?_);rintro e1 w1 ⟨rfl,_,hb1⟩;have HB1:Hid (Below w.heap.size w w1):=hI (HWB.out _ ((HBO3.out _).trans hb1));clear hb1)
           | fail)
          go_ret2
          exact ⟨rfl,HB1.out⟩
         | true =>
          rw [hfit] at hq;obtain rfl:(0:Int)=q:=by simpa using hq
          have hwf:=zKV hmt hfit hsm;obtain ⟨y,hy⟩:∃y:ByteArray,y.data.toList=(l.take k).flatMap zAO++zAO t:=⟨⟨_⟩,zRV _⟩;have hys:y.size=((l.take (k+1)).flatMap zAO).length:=by rw [hsn,←hy,ba_l]
          rw [←hy] at HPUT;have HY:Hid (y.data.toList=(l.take (k+1)).flatMap zAO):=hI (by rw [hy,hsn])
          by_cases hbig:16384 < y.size
          · obtain ⟨rfl,rfl⟩:=HMany.out HAll.out HAp.out (.inr (by omega))
            have g6:decide ((16384:Int) < (y.size:Int))=true:=decide_eq_true (by omega);clear ht hsm hmt hc hx hu hle hmx hnl hrd hcell hsn hle2 hpa hz hmm hq hfit hbig hlen hbld hbo hkd hk1 hwf hy hys
            go_wp2_with (first
             | (refine wpList_store_row rfl _ _ _ rfl wr.heap.size #[.int .u8 z,.string x,.slice a1 m p1,.string u] rfl rfl 131 zTk (heap_alloc_new _ _) zAo rfl (zCs _ _ _ _) ?_;rw [World.setRow_alloc_new])
             | (refine wpList_load_row rfl _ _ rfl wr.heap.size rfl 131 #[.int .u8 z,.string x,.slice a1 m p1,.string u] (0,0) _ (heap_alloc_new _ _) underlying131 rfl zAo ?_)
             | (go_at_call 139;(with_reducible refine (HPUT.out _).mono ?_);rintro e1 w1 ⟨rfl,hbd1,hb1⟩;have HD1:=hI (hbd1 rfl);have HB1:Hid (Below w.heap.size w w1):=hI (HWB.out _ ((HBO3.out _).trans hb1));clear hb1 hbd1)
             | (go_at_call 140;(with_reducible refine (bln B B y w1 HD1.out).mono ?_);rintro e2 w2 ⟨rfl,rfl⟩)
             | fail)
            go_ret2
            exact ⟨rfl,HB1.out⟩
          · have g6:decide ((16384:Int) < (y.size:Int))=false:=decide_eq_false (by omega)
            have HYS:Hid (((l.take (k+1)).flatMap zAO).length≤16384):=hI (by omega);clear ht hsm hmt hc hx hu hle hmx hnl hrd hcell hsn hle2 hpa hz hmm hq hfit hbig hlen hbld hbo hkd hk1 hwf hy hys
            go_wp2_with (first
             | (refine wpList_store_row rfl _ _ _ rfl wr.heap.size #[.int .u8 z,.string x,.slice a1 m p1,.string u] rfl rfl 131 zTk (heap_alloc_new _ _) zAo rfl (zCs _ _ _ _) ?_;rw [World.setRow_alloc_new])
             | (refine wpList_load_row rfl _ _ rfl wr.heap.size rfl 131 #[.int .u8 z,.string x,.slice a1 m p1,.string u] (0,0) _ (heap_alloc_new _ _) underlying131 rfl zAo ?_)
             | (go_at_call 139;(with_reducible refine (HPUT.out _).mono ?_);rintro e1 w1 ⟨rfl,hbd1,hb1⟩;have HD1:=hI (hbd1 rfl);have HB1:Hid (Below B wo w1):=hI ((HBO3.out _).trans hb1);clear hb1 hbd1)
             | (go_at_call 140;(with_reducible refine (bln B B y w1 HD1.out).mono ?_);rintro e2 w2 ⟨rfl,rfl⟩)
             | fail)
            go_roundg (gk - 1)
            case rel=>exact ⟨k+1,by omega,by go_num,HYS.out,HY.out ▸ HD1.out,HB1.out⟩
            case measure=>omega
       · obtain rfl:n=k:=by omega
         rw [List.take_of_length_le (by rw [HN.out];exact Nat.le_refl _)] at hlen hbld;obtain ⟨hs1,rfl⟩:=HGood.out HAll.out HAp.out H5.out hlen;have hs2:s.data.toList=l.flatMap zAO:=by rw [hs1]
         have HBS:Hid (Bld B B s.data.toList wr):=hI (hs2 ▸ hbld);clear hs1 hs2 hbld hlen hbo HBD
         go_wp2_with (first
          | (go_at_call 141;(with_reducible refine (bst B B s wr HBS.out HSW.out).mono ?_);rintro e2 w2 ⟨rfl,_,hb2⟩)
          | fail)
         go_ret2
         exact ⟨rfl,HWB.out _ (HBO2.out.trans hb2)⟩
def TkIn (ts:List Tk) (A:Option Addr) (c:Nat) (w:World):Prop:=RdC TkC w w.heap.size A ts∧ts.length≤c∧c≤maxLen∧(A=none→c=0)
theorem zRP (s:ByteArray) (w:World) (hm:s.size≤1000000) (b:Bool) (h:zBG s.data.toList=b) :
 Calls prog 22 #[.string s] w fun e w'=>e=.returned (.bool b)∧Below w.heap.size w w' :=
 (zEK s w hm b h).mono fun e w' ⟨h1,h2⟩=>⟨h1,h2 ▸ Below.refl _ _⟩
theorem zSf (A:Option Addr) (n cp:Nat) (l:List Tk) (w:World) (hr:RdC TkC w w.heap.size A l) (hn:l.length=n) (hm:n≤1000000) (hsz:∀t∈l,zCr t) (s:ByteArray) (e:Int) (h:zDH l=(s.data.toList,e)) :
 Calls prog 102 #[.slice A n cp] w fun e' w'=>e'=.returned (.tuple #[.string s,.int .i64 e])∧Below w.heap.size w w':=zRX A n cp l w hr hn hm hsz s e h
end Hx
namespace Hx
open Lx Tr
theorem RdS.of_own {α β:Type} {C:CodS α} {w:World} {S:Nat→Prop} {base:Nat} {e:TypeId} {A:Option Addr} {n c:Nat} (f:β→List Value) (val:β→α) (hk:∀b,(f b).length=C.k) (hk0:0 < C.k) (l:List β) (hR:∀b∈l,C.R w S (f b) (val b)) (hS:∀g,(Value.slice A n c).ownBlock=some g→S g)
 (h:w.ownsRow base e C.k (.slice A n c) n (l.flatMap f)):RdS C w S A (l.map val)∧l.length=n∧n≤c∧c≤maxLen∧(A=none→c=0):=by
 have hl:l.length=n:=by
  have:=h.1;rw [zGB f C.k hk] at this;exact Nat.eq_of_mul_eq_mul_right hk0 this
 rcases h.2 with ⟨e1,h0⟩ | ⟨g,cap,cur,hv,hb,hg,hnc,hcm,_,_⟩
 · injection e1 with e1 e2 e3
   subst e1 e3;have:l=[]:=List.eq_nil_of_length_eq_zero (by omega);subst this;exact ⟨RdS.nil _ _ _,hl,by omega,Nat.zero_le _,fun _=>rfl⟩
 · injection hv with e1 e2 e3
   subst e1 e3;refine ⟨fun hp=>⟨g,0,rfl,hS g rfl,fun j hj=>?_⟩,hl,hnc,hcm,fun h=>by cases h⟩;have hj':j < l.length:=by simpa using hj
   refine ⟨f (l[j]'hj'),by simpa using hR _ (List.getElem_mem hj'),fun i hi=>?_⟩;have hi':i < C.k:=by rw [hk] at hi;exact hi
   have:=h.cells (g:=g) rfl (j*C.k+i) _ (zEm f C.k hk l j i hj' hi');rw [zBB] at this;rw [Nat.zero_add,←this,Nat.zero_add]
structure AB where
 x:ByteArray
 y:ByteArray
 z:ByteArray
def zAi (b:AB):List Value:=[.string b.x,.string b.y,.string b.z]
def zAg (b:AB):At:=⟨b.x.data.toList,b.y.data.toList,b.z.data.toList⟩
def abOf (a:At):AB:=⟨⟨a.space.toArray⟩,⟨a.name.toArray⟩,⟨a.value.toArray⟩⟩
theorem zOq (a:At):zAg (abOf a)=a:=by cases a;simp [zAg,abOf]
theorem zJq (l:List At):(l.map abOf).map zAg=l:=by
 rw [List.map_map];exact (List.map_congr_left (g:=id) fun a _=>zOq a).trans (List.map_id _)
theorem ab_R (w:World) (S:Nat→Prop) (b:AB):AtS.R w S (zAi b) (zAg b):=⟨b.x,b.y,b.z,rfl,rfl,rfl,rfl⟩
structure NB where
 n:Nd
 x:ByteArray
 y:ByteArray
 z:ByteArray
 A:Option Addr
 c:Nat
def zAL (b:NB):List Value:=zBp b.n b.x b.y b.z b.A b.c
def Far (lo:Nat) (w0 wr:World) (row:Option Nat) (k:Nat):Prop:=lo≤k∧k < wr.heap.size∧some k≠row∧(w0.heap.size≤k→∀o,wr.frozen? ⟨k,o,none⟩=false)
theorem Far.below {lo k:Nat} {w0 wr w':World} {row:Option Nat} (h:Far lo w0 wr row k) (hb:Below wr.heap.size wr w'):Far lo w0 w' row k :=
 ⟨h.1,Nat.lt_of_lt_of_le h.2.1 hb.size,h.2.2.1,fun hk o=>(hb.frozen (p:=⟨k,o,none⟩) h.2.1).trans (h.2.2.2 hk o)⟩
def NdSt (lo:Nat) (w0:World) (L:List NB) (v:Value) (wr:World):Prop :=
 wr.ownsRow w0.heap.size 42 6 v L.length (L.flatMap zAL)∧(∀b∈L,NdIn b.n b.x b.y b.z b.A b.c wr (Far lo w0 wr v.ownBlock))∧Below w0.heap.size w0 wr
theorem NdSt.nil (lo:Nat) {w wr:World} (hb:Below w.heap.size w wr):NdSt lo w [] (.slice none 0 0) wr:=⟨World.ownsRow_nil _ _ _ _,(fun b hb=>by cases hb),hb⟩
theorem NdSt.below {lo:Nat} {w wr w':World} {L:List NB} {v:Value} (h:NdSt lo w L v wr) (hb:Below wr.heap.size wr w'):NdSt lo w L v w' :=
 ⟨zAF h.1 hb (Nat.le_refl _),fun b hm=>(h.2.1 b hm).keep (fun k hk=>hk.below hb) fun b o hk=>hb.cell (p:=⟨b,o,none⟩) hk.2.1,stp h.2.2 hb⟩
theorem NdSt.more {lo:Nat} {w wr w2 w5:World} {L M:List NB} {v v5:Value} (h:NdSt lo w L v wr) (hb:Below wr.heap.size wr w2) (hM:∀b∈M,NdIn b.n b.x b.y b.z b.A b.c w2 (Far lo w w2 v.ownBlock))
 (hown:w5.ownsRow w.heap.size 42 6 v5 (L.length+M.length) (L.flatMap zAL++M.flatMap zAL)) (hgr:w2.grownBy w5 v.ownBlock) (hlie:v5.ownBlock=v.ownBlock∨v5.ownBlock=some w2.heap.size):NdSt lo w (L++M) v5 w5:=by
 have h2:=h.below hb;refine ⟨by rw [List.length_append,List.flatMap_append];exact hown,fun b hm=>?_,h2.2.2.grown hgr ?_ fun k hk=>(h.1.lt k hk).1⟩
 · have hb0:NdIn b.n b.x b.y b.z b.A b.c w2 (Far lo w w2 v.ownBlock):=by
    rcases List.mem_append.1 hm with hm | hm
    · exact h2.2.1 b hm
    · exact hM b hm
   refine hb0.keep (fun k hk=>⟨hk.1,Nat.lt_of_lt_of_le hk.2.1 hgr.size,?_,fun hk2 o=>(hgr.frozen_far ⟨k,o,none⟩ hk.2.1 hk.2.2.1).trans (hk.2.2.2 hk2 o)⟩) fun k o hk=>hgr.cell_far ⟨k,o,none⟩ hk.2.1 hk.2.2.1
   rcases hlie with e | e
   · rw [e];exact hk.2.2.1
   · rw [e]
     intro e2;injection e2 with e2;have:=hk.2.1
     omega
 · have:=h2.2.2.size
   omega
structure zIE (lo:Nat) (w0:World) (v:List Nd) (A:Option Addr) (c:Nat) (w:World):Prop where
 rd:RdS NdS w (Far lo w0 w none) A v
 le:v.length≤c
 cm:c≤maxLen
 nil:A=none→c=0
theorem zIE.all {lo:Nat} {w0:World} {v:List Nd} {A:Option Addr} {c:Nat} {w:World} (h:zIE lo w0 v A c w):RdB NdS w A v:=h.rd.mono fun b hb=>hb.2.1
theorem zIE.none (lo:Nat) (w0 w:World):zIE lo w0 [] none 0 w:=⟨RdS.nil _ _ _,Nat.le_refl _,Nat.zero_le _,fun _=>rfl⟩
theorem NdSt.read {lo:Nat} {w wr:World} {L:List NB} {A:Option Addr} {n c:Nat} (h:NdSt lo w L (.slice A n c) wr) (hlo:lo≤w.heap.size):zIE lo w (L.map NB.n) A c wr∧L.length=n:=by
 have hn:n=L.length:=by
  have h1:=h.1;rcases h1.2 with ⟨e,h0⟩ | ⟨g,cap,cur,hv,_⟩
  · injection e with _ e _;omega
  · injection hv with _ e _
 subst hn
 obtain ⟨r1,r2,r3,r4,r5⟩:=RdS.of_own (C:=NdS) (S:=Far lo w wr none) zAL NB.n (fun _=>rfl) (by decide) L (fun b hm=>⟨b.x,b.y,b.z,b.A,b.c,rfl,(h.2.1 b hm).keep (fun k hk=>⟨hk.1,hk.2.1,by simp,hk.2.2.2⟩) fun _ _ _=>rfl⟩) (fun g hg=>by
  have h3:=h.1.lt g hg;refine ⟨by omega,h3.2,by simp,fun _ o=>?_⟩;rcases h.1.2 with ⟨e,h0⟩ | ⟨g',cap,cur,hv,hb',hg',_⟩
  · rw [e] at hg;cases hg
  · rw [hv] at hg
    have:g'=g:=by simpa [Value.ownBlock] using hg
    subst this;exact zAZ wr _ o _ _ hg') h.1
 exact ⟨⟨r1,by rw [List.length_map];exact r3,r4,r5⟩,rfl⟩
theorem zQg {lo base:Nat} {w0 w:World} {A:Option Addr} {n c:Nat} {row:Option Nat} {l:List At} (h:w.ownsRow base 44 3 (.slice A n c) n ((l.map abOf).flatMap zAi)) (hlo:lo≤base) (hrow:∀k,row=some k→k < base) :
 RdS AtS w (Far lo w0 w row) A l∧l.length=n∧n≤c∧c≤maxLen∧(A=none→c=0):=by
 obtain ⟨r1,r2,r3,r4,r5⟩:=RdS.of_own (C:=AtS) (S:=Far lo w0 w row) zAi zAg (fun _=>rfl) (by decide) (l.map abOf) (fun b _=>ab_R _ _ b) (fun g hg=>by
  have h3:=h.lt g hg;refine ⟨by omega,h3.2,fun e=>?_,fun _ o=>?_⟩
  · have:=hrow g e.symm
    omega
  · rcases h.2 with ⟨e,h0⟩ | ⟨g',cap,cur,hv,hb',hg',_⟩
    · rw [e] at hg;cases hg
    · rw [hv] at hg
      have:g'=g:=by simpa [Value.ownBlock] using hg
      subst this;exact zAZ w _ o _ _ hg') h
 rw [zJq] at r1;rw [List.length_map] at r2;exact ⟨r1,r2,r3,r4,r5⟩
theorem zFB:(prog.info? 42).map (fun i=>(i.zero,i.size,i.bytes))=some (some (.agg #[.int .u8 0,.string ⟨#[]⟩,.string ⟨#[]⟩,.slice none 0 0,.string ⟨#[]⟩,.int .i64 0]),6,88):=by kernel_rfl
theorem zHN:(prog.info? 44).map (fun i=>(i.zero,i.size,i.bytes))=some (some (.agg #[.string ⟨#[]⟩,.string ⟨#[]⟩,.string ⟨#[]⟩]),3,48):=by kernel_rfl
theorem zBr:(prog.info? 42).map (·.size)=some 6:=by kernel_rfl
theorem zAX:(prog.info? 44).map (·.size)=some 3:=by kernel_rfl
end Hx
end Go.Proofs.YtlgppednjkbgiaaGreatDoor
