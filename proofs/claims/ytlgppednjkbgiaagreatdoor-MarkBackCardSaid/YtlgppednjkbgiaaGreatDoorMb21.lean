/- Texts put together. -/
import Derived.Test.YtlgppednjkbgiaaGreatDoorMbA
import Derived.Test.YtlgppednjkbgiaaGreatDoorMb20
import Derived.Test.YtlgppednjkbgiaaGreatDoorMb06
import Derived.Test.YtlgppednjkbgiaaGreatDoorMb13
import Derived.Test.YtlgppednjkbgiaaGreatDoorMb09
import Derived.Deep.AppendLies
import Derived.Tactics
import Derived.Tactics2
import Derived.Defers
import Derived.Recover
import Derived.Laws.Pointers
import Derived.Test.YtlgppednjkbgiaaGreatDoorMb12
set_option maxRecDepth 100000
set_option maxHeartbeats 16000000
set_option linter.unusedVariables false
set_option linter.unusedSimpArgs false
namespace Go.Proofs.YtlgppednjkbgiaaGreatDoor
open Go.RowKit Go.Proofs.Tryz
namespace Hx
open Lx Tx Nmb Es
structure At9 (b:Nat) (s:ByteArray) (w:World):Prop where
 rd:Rd b s w
 ev:Ev9 w
 sz:s.size<=16384
 tx:isP s.data.toList=true
theorem Went.heap {b k:Nat} {t:ByteArray} {w w':World} {o:Obj} (h:Went b t w w') (hk:w.heap[k]?=some o) (hne:k≠b):w'.heap[k]?=some o :=
 (h.gr.block k (Array.getElem?_eq_some_iff.1 hk).1 (λe=>hne (by injection e))).trans hk
theorem Went.ev {b:Nat} {s t:ByteArray} {w w':World} (h:Went b t w w') (hr:Rd b s w) (hE:Ev9 w):Ev9 w':=Ev9.went (t:=t) hE hr h.gr
theorem At9.next {b:Nat} {s u:ByteArray} {w w':World} (h:At9 b s w) (k:Went b u w w') (hp:isP u.data.toList=true) (hz:u.size<=16384):At9 b u w':=⟨k.rd,k.ev h.rd h.ev,hz,hp⟩
theorem At9.alloc {b:Nat} {s:ByteArray} {w:World} (h:At9 b s w) (o:Obj):At9 b s (w.alloc o):=⟨h.rd.below (stpA (Below.refl _ _) o),h.ev.to (stpA (Below.refl _ _) o),h.sz,h.tx⟩
theorem At9.below {b:Nat} {s:ByteArray} {w w':World} (h:At9 b s w) (hb:Below w.heap.size w w'):At9 b s w':=⟨h.rd.below hb,h.ev.to hb,h.sz,h.tx⟩
theorem zHL (w:World) (g:Nat) (cs:Array Value) {w0:World} {b:Nat} (h:w0.grownBy w (some b)) (hg:w0.heap.size<=g):w0.grownBy (w.setRow g cs) (some b) :=
 ⟨h.os,h.tape,h.output,by have:=h.size;simpa [World.setRow] using this,λk hk hne=>(setRow_other w g k cs (by omega)).trans (h.block k hk hne)⟩
theorem Went.setRow {b:Nat} {t:ByteArray} {w w':World} (h:Went b t w w') (g:Nat) (cs:Array Value) (hg:w.heap.size<=g) (hb:b<w.heap.size):Went b t w (w'.setRow g cs) :=
 ⟨(setRow_other w' g b cs (by omega)).trans h.rd,zHL _ _ _ h.gr hg⟩
theorem mk_l (l:List UInt8):∃t:ByteArray,t.data.toList=l:=⟨⟨l.toArray⟩,by simp⟩
theorem zB6 {t:ByteArray} {l:List UInt8} (h:t.data.toList=l):t.size=l.length:=by rw [←h,ba_l]
theorem zGk {l:List UInt8} (h:isP l=true):isP (l.map sp8)=true:=zL9 sp8 (λc hc=>by
 unfold sp8;rw [if_neg];intro hb;have:=(zCh hb).2.2.2.2.2.2.2
 omega) (λc hc hm=>by
 unfold sp8
 split
 · exact ⟨by decide,by decide⟩
 · exact ⟨hc,hm⟩) h
theorem zHE (l:List UInt8):zGT l=rd (l.map sp8):=rfl
theorem pre1 {l:List UInt8} {c:UInt8} (h:∀r,l≠c::r):¬[c] <+: l:=by
 rintro ⟨r,e⟩;exact h r e.symm
theorem zF2 (b:Nat) (s s1:ByteArray) (raw u:ByteArray) (w:World) (h:At9 b s w) (hs:s.data.toList=34::s1.data.toList) (hraw:raw.data.toList=s1.data.toList.takeWhile (ne 34)) (hu:u.data.toList=s1.data.toList.dropWhile (ne 34)) (h0:u.data.toList=[]) :
 Calls prog 225 #[.pointer (some ⟨b,0,none⟩)] w λe w'=>e=zAR 80/\∃u,Went b u w w':=by
 have hz:=zB6 hs;rw [List.length_cons,ba_l] at hz;have hsz:=h.sz;have hr:=h.rd;have HT:=hI (zBv b s s1 ⟨#[34]⟩ w hr (by rw [hs];rfl));have HU:Hid (∀W,Rd b s1 W->Calls prog 176 #[.pointer (some ⟨b,0,none⟩),.string ⟨#[34]⟩] W λe w'=>e=.returned (.string raw)/\Went b u W w'):=hI λW hW=>zGS b s1 raw u W hW (by omega) hraw hu
 have HM2:Hid (∀W,Rd b u W->Calls prog 201 #[.pointer (some ⟨b,0,none⟩),.string ⟨#[34]⟩] W λe w'=>e=zAR 80/\Went b u W w'):=hI λW hW=>zFJ b u ⟨#[34]⟩ W hW (by rw [h0];exact pre1 (λr e=>by cases e))
 unfold zAR at HM2 ⊢;clear h hs hz hsz hr hraw hu h0
 go_enter func225,ntmps225
 go_wp2_with (first
  | (go_at_call 172;(with_reducible refine (HT.out).mono ?_);rintro e1 w1 ⟨rfl,hw1⟩;have HW1:Hid (Went b s1 w w1):=hI hw1;clear hw1)
  | (go_at_call 176;(with_reducible refine (HU.out w1 HW1.out.rd).mono ?_);rintro e2 w2 ⟨rfl,hw2⟩;have HW2:Hid (Went b u w w2):=hI (HW1.out.trans hw2);clear hw2)
  | (go_at_call 201;(with_reducible refine (HM2.out w2 HW2.out.rd).mono ?_);rintro e3 w3 ⟨rfl,hw3⟩)
  | fail)
 (try simp only [Exit.inBlock,Exit.then])
 exact ⟨rfl,rfl,_,HW2.out.trans hw3⟩
theorem zHA (b:Nat) (s s1:ByteArray) (raw u y t v:ByteArray) (w:World) (h:At9 b s w) (hs:s.data.toList=34::s1.data.toList) (hraw:raw.data.toList=s1.data.toList.takeWhile (ne 34)) (hu:u.data.toList=s1.data.toList.dropWhile (ne 34)) (hy:u.data.toList=34::y.data.toList) (hp:isP raw.data.toList=true) (ht:t.data.toList=raw.data.toList.map sp8) (hv:rd t.data.toList=some v.data.toList) :
 Calls prog 225 #[.pointer (some ⟨b,0,none⟩)] w λe w'=>e=.returned (.string v)/\Went b y w w':=by
 have hz:=zB6 hs;rw [List.length_cons,ba_l] at hz;have hsz:=h.sz;have hr:=h.rd;have HT:=hI (zBv b s s1 ⟨#[34]⟩ w hr (by rw [hs];rfl));have HU:Hid (∀W,Rd b s1 W->Calls prog 176 #[.pointer (some ⟨b,0,none⟩),.string ⟨#[34]⟩] W λe w'=>e=.returned (.string raw)/\Went b u W w'):=hI λW hW=>zGS b s1 raw u W hW (by omega) hraw hu
 have hev:=h.ev
 have hrs:raw.size<=16384:=by
  have:=congrArg List.length (zAU (ne 34) s1.data.toList).1;rw [List.length_append,←hraw,ba_l,ba_l] at this
  omega
 have hts:t.size<=16384:=by rw [zB6 ht,List.length_map,ba_l];exact hrs
 have htp:isP t.data.toList=true:=by rw [ht];exact zGk hp
 have HM2:Hid (∀W,Rd b u W->Calls prog 201 #[.pointer (some ⟨b,0,none⟩),.string ⟨#[34]⟩] W λe w'=>e=.returned (.tuple #[])/\Went b y W w'):=hI λW hW=>zBw b u y ⟨#[34]⟩ W hW (by rw [hy];rfl)
 have HMP:Hid (∀W,Ev9 W->Calls prog 243 #[.func (.func 244) #[] #[],.string raw] W λe w'=>e=.returned (.string t)/\Below W.heap.size W w'):=hI λW hW=>map9 raw t W hp (by omega) ht hW
 have HPL:Hid (∀W,Ev9 W->Calls prog 175 #[.string t] W λe w'=>e=.returned (.string v)/\Below W.heap.size W w'):=hI λW hW=>zEx t v W htp hts hv hW.err
 have HEV:Hid (∀u W,Went b u w W->Ev9 W):=hI λu W hW=>hW.ev hr hev
 clear h hs hz hsz hr hraw hu hy hp ht hv hev hrs hts htp
 go_enter func225,ntmps225
 go_wp2_with (first
  | (go_at_call 172;(with_reducible refine (HT.out).mono ?_);rintro e1 w1 ⟨rfl,hw1⟩;have HW1:Hid (Went b s1 w w1):=hI hw1;clear hw1)
  | (go_at_call 176;(with_reducible refine (HU.out w1 HW1.out.rd).mono ?_);rintro e2 w2 ⟨rfl,hw2⟩;have HW2:Hid (Went b u w w2):=hI (HW1.out.trans hw2);clear hw2)
  | (go_at_call 201;(with_reducible refine (HM2.out w2 HW2.out.rd).mono ?_);rintro e3 w3 ⟨rfl,hw3⟩;have HW3:Hid (Went b y w w3):=hI (HW2.out.trans hw3);clear hw3)
  | (go_at_call 243;(with_reducible refine (HMP.out w3 (HEV.out _ _ HW3.out)).mono ?_);rintro e4 w4 ⟨rfl,hb4⟩;have HW4:Hid (Went b y w w4):=hI (HW3.out.then hb4);clear hb4)
  | (go_at_call 175;(with_reducible refine (HPL.out w4 (HEV.out _ _ HW4.out)).mono ?_);rintro e5 w5 ⟨rfl,hb5⟩)
  | fail)
 go_ret
 exact ⟨rfl,HW4.out.then hb5⟩
theorem zH4 (b:Nat) (s s1:ByteArray) (raw u y t:ByteArray) (w:World) (h:At9 b s w) (hs:s.data.toList=34::s1.data.toList) (hraw:raw.data.toList=s1.data.toList.takeWhile (ne 34)) (hu:u.data.toList=s1.data.toList.dropWhile (ne 34)) (hy:u.data.toList=34::y.data.toList) (hp:isP raw.data.toList=true) (ht:t.data.toList=raw.data.toList.map sp8) (hv:rd t.data.toList=none) :
 Calls prog 225 #[.pointer (some ⟨b,0,none⟩)] w λe w'=>e=zAR 80/\∃u,Went b u w w':=by
 have hz:=zB6 hs;rw [List.length_cons,ba_l] at hz;have hsz:=h.sz;have hr:=h.rd;have HT:=hI (zBv b s s1 ⟨#[34]⟩ w hr (by rw [hs];rfl));have HU:Hid (∀W,Rd b s1 W->Calls prog 176 #[.pointer (some ⟨b,0,none⟩),.string ⟨#[34]⟩] W λe w'=>e=.returned (.string raw)/\Went b u W w'):=hI λW hW=>zGS b s1 raw u W hW (by omega) hraw hu
 have hev:=h.ev
 have hrs:raw.size<=16384:=by
  have:=congrArg List.length (zAU (ne 34) s1.data.toList).1;rw [List.length_append,←hraw,ba_l,ba_l] at this
  omega
 have hts:t.size<=16384:=by rw [zB6 ht,List.length_map,ba_l];exact hrs
 have htp:isP t.data.toList=true:=by rw [ht];exact zGk hp
 have HM2:Hid (∀W,Rd b u W->Calls prog 201 #[.pointer (some ⟨b,0,none⟩),.string ⟨#[34]⟩] W λe w'=>e=.returned (.tuple #[])/\Went b y W w'):=hI λW hW=>zBw b u y ⟨#[34]⟩ W hW (by rw [hy];rfl)
 have HMP:Hid (∀W,Ev9 W->Calls prog 243 #[.func (.func 244) #[] #[],.string raw] W λe w'=>e=.returned (.string t)/\Below W.heap.size W w'):=hI λW hW=>map9 raw t W hp (by omega) ht hW
 have HPL:Hid (∀W,Ev9 W->Calls prog 175 #[.string t] W λe w'=>e=zAR 80/\Below W.heap.size W w'):=hI λW hW=>zGK t W htp hts hv hW.err
 unfold zAR at HPL ⊢;have HEV:Hid (∀u W,Went b u w W->Ev9 W):=hI λu W hW=>hW.ev hr hev
 clear h hs hz hsz hr hraw hu hy hp ht hv hev hrs hts htp
 go_enter func225,ntmps225
 go_wp2_with (first
  | (go_at_call 172;(with_reducible refine (HT.out).mono ?_);rintro e1 w1 ⟨rfl,hw1⟩;have HW1:Hid (Went b s1 w w1):=hI hw1;clear hw1)
  | (go_at_call 176;(with_reducible refine (HU.out w1 HW1.out.rd).mono ?_);rintro e2 w2 ⟨rfl,hw2⟩;have HW2:Hid (Went b u w w2):=hI (HW1.out.trans hw2);clear hw2)
  | (go_at_call 201;(with_reducible refine (HM2.out w2 HW2.out.rd).mono ?_);rintro e3 w3 ⟨rfl,hw3⟩;have HW3:Hid (Went b y w w3):=hI (HW2.out.trans hw3);clear hw3)
  | (go_at_call 243;(with_reducible refine (HMP.out w3 (HEV.out _ _ HW3.out)).mono ?_);rintro e4 w4 ⟨rfl,hb4⟩;have HW4:Hid (Went b y w w4):=hI (HW3.out.then hb4);clear hb4)
  | (go_at_call 175;(with_reducible refine (HPL.out w4 (HEV.out _ _ HW4.out)).mono ?_);rintro e5 w5 ⟨rfl,hb5⟩)
  | fail)
 (try simp only [Exit.inBlock,Exit.then])
 exact ⟨rfl,rfl,_,HW4.out.then hb5⟩
theorem zGJ (b:Nat) (s s1:ByteArray) (raw u:ByteArray) (w:World) (h:At9 b s w) (hs:s.data.toList=39::s1.data.toList) (hraw:raw.data.toList=s1.data.toList.takeWhile (ne 39)) (hu:u.data.toList=s1.data.toList.dropWhile (ne 39)) (h0:u.data.toList=[]) :
 Calls prog 225 #[.pointer (some ⟨b,0,none⟩)] w λe w'=>e=zAR 80/\∃u,Went b u w w':=by
 have hz:=zB6 hs;rw [List.length_cons,ba_l] at hz;have hsz:=h.sz;have hr:=h.rd;have HT:=hI (zBi b s ⟨#[34]⟩ w hr (by rw [hs];exact pre1 (λr e=>by cases e)));have HM1:Hid (∀W,Rd b s W->Calls prog 201 #[.pointer (some ⟨b,0,none⟩),.string ⟨#[39]⟩] W λe w'=>e=.returned (.tuple #[])/\Went b s1 W w'):=hI λW hW=>zBw b s s1 ⟨#[39]⟩ W hW (by rw [hs];rfl)
 have HU:Hid (∀W,Rd b s1 W->Calls prog 176 #[.pointer (some ⟨b,0,none⟩),.string ⟨#[39]⟩] W λe w'=>e=.returned (.string raw)/\Went b u W w'):=hI λW hW=>zGb b s1 raw u W hW (by omega) hraw hu
 have HM2:Hid (∀W,Rd b u W->Calls prog 201 #[.pointer (some ⟨b,0,none⟩),.string ⟨#[39]⟩] W λe w'=>e=zAR 80/\Went b u W w'):=hI λW hW=>zFJ b u ⟨#[39]⟩ W hW (by rw [h0];exact pre1 (λr e=>by cases e))
 unfold zAR at HM2 ⊢;clear h hs hz hsz hr hraw hu h0;have tok1:True:=trivial
 go_enter func225,ntmps225
 go_wp2_with (first
  | (go_at_call 172;(with_reducible refine (HT.out).mono ?_);rintro e0 w0 ⟨rfl,hw0⟩;have HW0:Hid (Went b s w w0):=hI hw0;clear hw0)
  | (have _t:=tok1;go_at_call 201;(with_reducible refine (HM1.out w0 HW0.out.rd).mono ?_);rintro e1 w1 ⟨rfl,hw1⟩;have HW1:Hid (Went b s1 w w1):=hI (HW0.out.trans hw1);clear hw1;clear _t tok1)
  | (go_at_call 176;(with_reducible refine (HU.out w1 HW1.out.rd).mono ?_);rintro e2 w2 ⟨rfl,hw2⟩;have HW2:Hid (Went b u w w2):=hI (HW1.out.trans hw2);clear hw2)
  | (go_at_call 201;(with_reducible refine (HM2.out w2 HW2.out.rd).mono ?_);rintro e3 w3 ⟨rfl,hw3⟩)
  | fail)
 (try simp only [Exit.inBlock,Exit.then])
 exact ⟨rfl,rfl,_,HW2.out.trans hw3⟩
theorem zHM (b:Nat) (s s1:ByteArray) (raw u y t v:ByteArray) (w:World) (h:At9 b s w) (hs:s.data.toList=39::s1.data.toList) (hraw:raw.data.toList=s1.data.toList.takeWhile (ne 39)) (hu:u.data.toList=s1.data.toList.dropWhile (ne 39)) (hy:u.data.toList=39::y.data.toList) (hp:isP raw.data.toList=true) (ht:t.data.toList=raw.data.toList.map sp8) (hv:rd t.data.toList=some v.data.toList) :
 Calls prog 225 #[.pointer (some ⟨b,0,none⟩)] w λe w'=>e=.returned (.string v)/\Went b y w w':=by
 have hz:=zB6 hs;rw [List.length_cons,ba_l] at hz;have hsz:=h.sz;have hr:=h.rd;have HT:=hI (zBi b s ⟨#[34]⟩ w hr (by rw [hs];exact pre1 (λr e=>by cases e)));have HM1:Hid (∀W,Rd b s W->Calls prog 201 #[.pointer (some ⟨b,0,none⟩),.string ⟨#[39]⟩] W λe w'=>e=.returned (.tuple #[])/\Went b s1 W w'):=hI λW hW=>zBw b s s1 ⟨#[39]⟩ W hW (by rw [hs];rfl)
 have HU:Hid (∀W,Rd b s1 W->Calls prog 176 #[.pointer (some ⟨b,0,none⟩),.string ⟨#[39]⟩] W λe w'=>e=.returned (.string raw)/\Went b u W w'):=hI λW hW=>zGb b s1 raw u W hW (by omega) hraw hu
 have hev:=h.ev
 have hrs:raw.size<=16384:=by
  have:=congrArg List.length (zAU (ne 39) s1.data.toList).1;rw [List.length_append,←hraw,ba_l,ba_l] at this
  omega
 have hts:t.size<=16384:=by rw [zB6 ht,List.length_map,ba_l];exact hrs
 have htp:isP t.data.toList=true:=by rw [ht];exact zGk hp
 have HM2:Hid (∀W,Rd b u W->Calls prog 201 #[.pointer (some ⟨b,0,none⟩),.string ⟨#[39]⟩] W λe w'=>e=.returned (.tuple #[])/\Went b y W w'):=hI λW hW=>zBw b u y ⟨#[39]⟩ W hW (by rw [hy];rfl)
 have HMP:Hid (∀W,Ev9 W->Calls prog 243 #[.func (.func 244) #[] #[],.string raw] W λe w'=>e=.returned (.string t)/\Below W.heap.size W w'):=hI λW hW=>map9 raw t W hp (by omega) ht hW
 have HPL:Hid (∀W,Ev9 W->Calls prog 175 #[.string t] W λe w'=>e=.returned (.string v)/\Below W.heap.size W w'):=hI λW hW=>zEx t v W htp hts hv hW.err
 have HEV:Hid (∀u W,Went b u w W->Ev9 W):=hI λu W hW=>hW.ev hr hev
 clear h hs hz hsz hr hraw hu hy hp ht hv hev hrs hts htp;have tok1:True:=trivial
 go_enter func225,ntmps225
 go_wp2_with (first
  | (go_at_call 172;(with_reducible refine (HT.out).mono ?_);rintro e0 w0 ⟨rfl,hw0⟩;have HW0:Hid (Went b s w w0):=hI hw0;clear hw0)
  | (have _t:=tok1;go_at_call 201;(with_reducible refine (HM1.out w0 HW0.out.rd).mono ?_);rintro e1 w1 ⟨rfl,hw1⟩;have HW1:Hid (Went b s1 w w1):=hI (HW0.out.trans hw1);clear hw1;clear _t tok1)
  | (go_at_call 176;(with_reducible refine (HU.out w1 HW1.out.rd).mono ?_);rintro e2 w2 ⟨rfl,hw2⟩;have HW2:Hid (Went b u w w2):=hI (HW1.out.trans hw2);clear hw2)
  | (go_at_call 201;(with_reducible refine (HM2.out w2 HW2.out.rd).mono ?_);rintro e3 w3 ⟨rfl,hw3⟩;have HW3:Hid (Went b y w w3):=hI (HW2.out.trans hw3);clear hw3)
  | (go_at_call 243;(with_reducible refine (HMP.out w3 (HEV.out _ _ HW3.out)).mono ?_);rintro e4 w4 ⟨rfl,hb4⟩;have HW4:Hid (Went b y w w4):=hI (HW3.out.then hb4);clear hb4)
  | (go_at_call 175;(with_reducible refine (HPL.out w4 (HEV.out _ _ HW4.out)).mono ?_);rintro e5 w5 ⟨rfl,hb5⟩)
  | fail)
 go_ret
 exact ⟨rfl,HW4.out.then hb5⟩
theorem zH9 (b:Nat) (s s1:ByteArray) (raw u y t:ByteArray) (w:World) (h:At9 b s w) (hs:s.data.toList=39::s1.data.toList) (hraw:raw.data.toList=s1.data.toList.takeWhile (ne 39)) (hu:u.data.toList=s1.data.toList.dropWhile (ne 39)) (hy:u.data.toList=39::y.data.toList) (hp:isP raw.data.toList=true) (ht:t.data.toList=raw.data.toList.map sp8) (hv:rd t.data.toList=none) :
 Calls prog 225 #[.pointer (some ⟨b,0,none⟩)] w λe w'=>e=zAR 80/\∃u,Went b u w w':=by
 have hz:=zB6 hs;rw [List.length_cons,ba_l] at hz;have hsz:=h.sz;have hr:=h.rd;have HT:=hI (zBi b s ⟨#[34]⟩ w hr (by rw [hs];exact pre1 (λr e=>by cases e)));have HM1:Hid (∀W,Rd b s W->Calls prog 201 #[.pointer (some ⟨b,0,none⟩),.string ⟨#[39]⟩] W λe w'=>e=.returned (.tuple #[])/\Went b s1 W w'):=hI λW hW=>zBw b s s1 ⟨#[39]⟩ W hW (by rw [hs];rfl)
 have HU:Hid (∀W,Rd b s1 W->Calls prog 176 #[.pointer (some ⟨b,0,none⟩),.string ⟨#[39]⟩] W λe w'=>e=.returned (.string raw)/\Went b u W w'):=hI λW hW=>zGb b s1 raw u W hW (by omega) hraw hu
 have hev:=h.ev
 have hrs:raw.size<=16384:=by
  have:=congrArg List.length (zAU (ne 39) s1.data.toList).1;rw [List.length_append,←hraw,ba_l,ba_l] at this
  omega
 have hts:t.size<=16384:=by rw [zB6 ht,List.length_map,ba_l];exact hrs
 have htp:isP t.data.toList=true:=by rw [ht];exact zGk hp
 have HM2:Hid (∀W,Rd b u W->Calls prog 201 #[.pointer (some ⟨b,0,none⟩),.string ⟨#[39]⟩] W λe w'=>e=.returned (.tuple #[])/\Went b y W w'):=hI λW hW=>zBw b u y ⟨#[39]⟩ W hW (by rw [hy];rfl)
 have HMP:Hid (∀W,Ev9 W->Calls prog 243 #[.func (.func 244) #[] #[],.string raw] W λe w'=>e=.returned (.string t)/\Below W.heap.size W w'):=hI λW hW=>map9 raw t W hp (by omega) ht hW
 have HPL:Hid (∀W,Ev9 W->Calls prog 175 #[.string t] W λe w'=>e=zAR 80/\Below W.heap.size W w'):=hI λW hW=>zGK t W htp hts hv hW.err
 unfold zAR at HPL ⊢;have HEV:Hid (∀u W,Went b u w W->Ev9 W):=hI λu W hW=>hW.ev hr hev
 clear h hs hz hsz hr hraw hu hy hp ht hv hev hrs hts htp;have tok1:True:=trivial
 go_enter func225,ntmps225
 go_wp2_with (first
  | (go_at_call 172;(with_reducible refine (HT.out).mono ?_);rintro e0 w0 ⟨rfl,hw0⟩;have HW0:Hid (Went b s w w0):=hI hw0;clear hw0)
  | (have _t:=tok1;go_at_call 201;(with_reducible refine (HM1.out w0 HW0.out.rd).mono ?_);rintro e1 w1 ⟨rfl,hw1⟩;have HW1:Hid (Went b s1 w w1):=hI (HW0.out.trans hw1);clear hw1;clear _t tok1)
  | (go_at_call 176;(with_reducible refine (HU.out w1 HW1.out.rd).mono ?_);rintro e2 w2 ⟨rfl,hw2⟩;have HW2:Hid (Went b u w w2):=hI (HW1.out.trans hw2);clear hw2)
  | (go_at_call 201;(with_reducible refine (HM2.out w2 HW2.out.rd).mono ?_);rintro e3 w3 ⟨rfl,hw3⟩;have HW3:Hid (Went b y w w3):=hI (HW2.out.trans hw3);clear hw3)
  | (go_at_call 243;(with_reducible refine (HMP.out w3 (HEV.out _ _ HW3.out)).mono ?_);rintro e4 w4 ⟨rfl,hb4⟩;have HW4:Hid (Went b y w w4):=hI (HW3.out.then hb4);clear hb4)
  | (go_at_call 175;(with_reducible refine (HPL.out w4 (HEV.out _ _ HW4.out)).mono ?_);rintro e5 w5 ⟨rfl,hb5⟩)
  | fail)
 (try simp only [Exit.inBlock,Exit.then])
 exact ⟨rfl,rfl,_,HW4.out.then hb5⟩
theorem zIN (b:Nat) (s:ByteArray) (w:World) (h:At9 b s w) (h1:∀r,s.data.toList≠34::r) (h2:∀r,s.data.toList≠39::r) :
 Calls prog 225 #[.pointer (some ⟨b,0,none⟩)] w λe w'=>e=zAR 80/\∃u,Went b u w w':=by
 have HT:=hI (zBi b s ⟨#[34]⟩ w h.rd (pre1 h1));have HM1:Hid (∀W,Rd b s W->Calls prog 201 #[.pointer (some ⟨b,0,none⟩),.string ⟨#[39]⟩] W λe w'=>e=zAR 80/\Went b s W w'):=hI λW hW=>zFJ b s ⟨#[39]⟩ W hW (pre1 h2)
 unfold zAR at HM1 ⊢;clear h h1 h2
 go_enter func225,ntmps225
 go_wp2_with (first
  | (go_at_call 172;(with_reducible refine (HT.out).mono ?_);rintro e0 w0 ⟨rfl,hw0⟩;have HW0:Hid (Went b s w w0):=hI hw0;clear hw0)
  | (go_at_call 201;(with_reducible refine (HM1.out w0 HW0.out.rd).mono ?_);rintro e1 w1 ⟨rfl,hw1⟩)
  | fail)
 (try simp only [Exit.inBlock,Exit.then])
 exact ⟨rfl,rfl,_,HW0.out.trans hw1⟩
theorem zHS (q:UInt8) (r:List UInt8) (hq:q=34∨q=39):valL (q::r)=match r.dropWhile (ne q) with | []=>none | _::y=>(zGT (r.takeWhile (ne q))).map λv=>(v,y):=by
 show (if q=34∨q=39 then (match cutQ q r with | none=>none | some (raw,y)=>(zGT raw).map λv=>(v,y)) else none)=_;rw [if_pos hq,zP4]
 cases r.dropWhile (ne q) <;> rfl
theorem zF8 {q d:UInt8} {r y:List UInt8} (h:r.dropWhile (ne q)=d::y):d=q:=by
 have:=(zAU (ne q) r).2.2 d y h;unfold ne at this
 simpa using this
theorem zKx (b:Nat) (s v y:ByteArray) (w:World) (h:At9 b s w) (hv:valL s.data.toList=some (v.data.toList,y.data.toList)) :
 Calls prog 225 #[.pointer (some ⟨b,0,none⟩)] w λe w'=>e=.returned (.string v)/\Went b y w w':=by
 have hp:=h.tx
 cases hs:s.data.toList with
 | nil=>rw [hs] at hv;cases hv
 | cons q r =>
  rw [hs] at hv hp
  have hq:q=34∨q=39:=by
   by_cases hq:q=34∨q=39
   · exact hq
   · have:valL (q::r)=none:=by show (if q=34∨q=39 then _ else none)=none;rw [if_neg hq]
     rw [this] at hv;cases hv
  rw [zHS q r hq] at hv;obtain ⟨s1,hs1⟩:=mk_l r;subst hs1;obtain ⟨raw,hraw⟩:=mk_l (s1.data.toList.takeWhile (ne q));obtain ⟨u,hu⟩:=mk_l (s1.data.toList.dropWhile (ne q));obtain ⟨t,ht⟩:=mk_l (raw.data.toList.map sp8);have hpp:=zAt (g:=[q]) (l:=s1.data.toList) hp (by intro c hc;rw [List.mem_singleton] at hc;subst hc;exact zKt hq)
  cases hd:s1.data.toList.dropWhile (ne q) with
  | nil=>rw [hd] at hv;cases hv
  | cons d y' =>
   obtain rfl:=zF8 hd;rw [hd] at hv;dsimp only at hv;have hsp:=(zAU (ne d) s1.data.toList).1;rw [hd] at hsp;rw [hsp] at hpp;have hpr:=(zA2 hpp (zKt hq)).1;rw [←hraw] at hpr hv;rw [zHE,←ht] at hv
   cases hr:rd t.data.toList with
   | none=>rw [hr] at hv;cases hv
   | some x =>
    rw [hr] at hv;obtain ⟨e1,e2⟩:=(Prod.mk.injEq _ _ _ _).mp (Option.some.inj hv);rw [e1] at hr;have hy:u.data.toList=d::y.data.toList:=by rw [hu,hd,e2]
    rcases hq with rfl | rfl
    · exact zHA b s s1 raw u y t v w h hs hraw hu hy hpr ht hr
    · exact zHM b s s1 raw u y t v w h hs hraw hu hy hpr ht hr
theorem zKu (b:Nat) (s:ByteArray) (w:World) (h:At9 b s w) (hv:valL s.data.toList=none) :
 Calls prog 225 #[.pointer (some ⟨b,0,none⟩)] w λe w'=>e=zAR 80/\∃u,Went b u w w':=by
 have hp:=h.tx
 by_cases hq:∃q r,s.data.toList=q::r/\(q=34∨q=39)
 · obtain ⟨q,r,hs,hq⟩:=hq
   rw [hs] at hv hp;rw [zHS q r hq] at hv;obtain ⟨s1,hs1⟩:=mk_l r;subst hs1;obtain ⟨raw,hraw⟩:=mk_l (s1.data.toList.takeWhile (ne q));obtain ⟨u,hu⟩:=mk_l (s1.data.toList.dropWhile (ne q));obtain ⟨t,ht⟩:=mk_l (raw.data.toList.map sp8);have hpp:=zAt (g:=[q]) (l:=s1.data.toList) hp (by intro c hc;rw [List.mem_singleton] at hc;subst hc;exact zKt hq)
   cases hd:s1.data.toList.dropWhile (ne q) with
   | nil =>
    rcases hq with rfl | rfl
    · exact zF2 b s s1 raw u w h hs hraw hu (hu.trans hd)
    · exact zGJ b s s1 raw u w h hs hraw hu (hu.trans hd)
   | cons d y' =>
    obtain rfl:=zF8 hd;rw [hd] at hv;dsimp only at hv;have hsp:=(zAU (ne d) s1.data.toList).1;rw [hd] at hsp;rw [hsp] at hpp;have hpr:=(zA2 hpp (zKt hq)).1;rw [←hraw] at hpr hv;rw [zHE,←ht] at hv
    have hr:rd t.data.toList=none:=by
     cases hr:rd t.data.toList with
     | none=>rfl
     | some x=>rw [hr] at hv;cases hv
    obtain ⟨y,hy⟩:=mk_l y';have hy2:u.data.toList=d::y.data.toList:=by rw [hu,hd,hy]
    rcases hq with rfl | rfl
    · exact zH4 b s s1 raw u y t w h hs hraw hu hy2 hpr ht hr
    · exact zH9 b s s1 raw u y t w h hs hraw hu hy2 hpr ht hr
 · exact zIN b s w h (λr e=>hq ⟨34,r,e,.inl rfl⟩) (λr e=>hq ⟨39,r,e,.inr rfl⟩)
theorem zKP {l:List UInt8} (h:isP l=true):isP (l.dropWhile wch)=true:=by
 have e:=(zAU wch l).1;rw [e] at h;exact zAt h λc hc=>zF9 ((zAU wch l).2.1 c hc)
theorem zGl {l:List UInt8} (h:isP l=true):isP (l.dropWhile blk)=true:=by
 have e:=(zAU blk l).1;rw [e] at h;exact zAt h λc hc=>zDR ((zAU blk l).2.1 c hc)
theorem zIB {c:UInt8} {l:List UInt8} (h:isP (c::l)=true) (hc:c.toNat<128):isP l=true:=zAt (g:=[c]) h (by intro d hd;rw [List.mem_singleton] at hd;subst hd;exact hc)
theorem zE5 {l:List UInt8} (hf:zAP (l.takeWhile wch)=true):zB2 l=match (l.dropWhile wch).dropWhile blk with
 | []=>none
 | c::r=>if c=61 then (valL (r.dropWhile blk)).map λp=>(⟨l.takeWhile wch,p.1⟩,p.2) else none:=by
 obtain ⟨h1,h2,h3⟩:=(zC7 l).1 hf;unfold zB2;rw [if_neg h2,h3,h1]
 rfl
theorem zHy {l:List UInt8} (hf:zAP (l.takeWhile wch)=false):zB2 l=none:=by
 unfold zB2;rw [if_pos ((zC7 l).2 hf)]
theorem zEf {l:List UInt8} (hf:zAP (l.takeWhile wch)=true):zDl l=match (l.dropWhile wch).dropWhile blk with
 | []=>none
 | c::r=>if c=62 then some (⟨2,l.takeWhile wch,[],[]⟩,r) else none:=by
 obtain ⟨h1,h2,h3⟩:=(zC7 l).1 hf;unfold zDl;rw [if_neg h2,h3,h1]
 rfl
theorem zHv {l:List UInt8} (hf:zAP (l.takeWhile wch)=false):zDl l=none:=by
 unfold zDl;rw [if_pos ((zC7 l).2 hf)]
theorem zNx (b:Nat) (s t u1 u2:ByteArray) (u3 u4 v y:ByteArray) (w:World) (h:At9 b s w) (ht:t.data.toList=s.data.toList.takeWhile wch) (hu1:u1.data.toList=s.data.toList.dropWhile wch) (hf:zAP (s.data.toList.takeWhile wch)=true) (hu2:u2.data.toList=u1.data.toList.dropWhile blk) (hu3:u2.data.toList=61::u3.data.toList) (hu4:u4.data.toList=u3.data.toList.dropWhile blk) (hv:valL u4.data.toList=some (v.data.toList,y.data.toList)) :
 Calls prog 202 #[.pointer (some ⟨b,0,none⟩)] w λe w'=>e=.returned (.agg #[.string t,.string v])/\Went b y w w':=by
 have hz1:u1.size<=s.size:=by have:=zAJ wch s.data.toList;rw [←hu1,ba_l,ba_l] at this;exact this
 have hz2:u2.size<=u1.size:=by have:=zAJ blk u1.data.toList;rw [←hu2,ba_l,ba_l] at this;exact this
 have hsz:=h.sz;have hgb:w.heap.size≠b:=Nat.ne_of_gt h.rd.lt;have hp2:isP u2.data.toList=true:=by rw [hu2,hu1];exact zGl (zKP h.tx)
 have HF:Hid (∀o,Calls prog 199 #[.pointer (some ⟨b,0,none⟩)] (w.alloc o) λe w'=>e=.returned (.string t)/\Went b u1 (w.alloc o) w'):=hI λo=>zC2 b s t u1 (w.alloc o) (h.alloc o).rd (by omega) ht hu1 (ht ▸ hf)
 have HB1:Hid (∀W,Rd b u1 W->Calls prog 200 #[.pointer (some ⟨b,0,none⟩)] W λe w'=>(∃q,e=.returned (.bool q))/\Went b u2 W w'):=hI λW hW=>zDQ b u1 u2 W hW (by omega) hu2
 have hz3:u3.size+1=u2.size:=by have:=zB6 hu3;rw [List.length_cons,ba_l] at this;omega
 have hz4:u4.size<=u3.size:=by have:=zAJ blk u3.data.toList;rw [←hu4,ba_l,ba_l] at this;exact this
 have hp3:isP u3.data.toList=true:=by rw [hu3] at hp2;exact zIB hp2 (by decide)
 have HP4:Hid (isP u4.data.toList=true):=hI (by rw [hu4];exact zGl hp3);have HZ4:Hid (u4.size<=16384):=hI (by omega);have HM:Hid (∀W,Rd b u2 W->Calls prog 201 #[.pointer (some ⟨b,0,none⟩),.string ⟨#[61]⟩] W λe w'=>e=.returned (.tuple #[])/\Went b u3 W w'):=hI λW hW=>zBw b u2 u3 ⟨#[61]⟩ W hW (by rw [hu3];rfl)
 have HB2:Hid (∀W,Rd b u3 W->Calls prog 200 #[.pointer (some ⟨b,0,none⟩)] W λe w'=>(∃q,e=.returned (.bool q))/\Went b u4 W w'):=hI λW hW=>zDQ b u3 u4 W hW (by omega) hu4
 have HA:Hid (At9 b s (w.alloc (.cells zPr 187))):=hI (h.alloc _);have HGB:=hI hgb;have HBT:Hid (b<w.heap.size):=h.rd.lt;have HV:Hid (∀W,At9 b u4 W->Calls prog 225 #[.pointer (some ⟨b,0,none⟩)] W λe w'=>e=.returned (.string v)/\Went b y W w'):=hI λW hW=>zKx b u4 v y W hW hv
 clear h ht hu1 hf hu2 hz1 hz2 hsz hgb hp2 hu3 hu4 hv hz3 hz4 hp3;have tok1:True:=trivial
 go_enter func202,ntmps202
 go_wp2_with (first
  | (go_at_call 199;(with_reducible refine (HF.out _).mono ?_);rintro e1 w1 ⟨rfl,hw1⟩;have HW1:Hid (Went b u1 (w.alloc (.cells zPr 187)) w1):=hI hw1;clear hw1)
  | (have _t:=tok1;go_at_call 200;(with_reducible refine (HB1.out w1 HW1.out.rd).mono ?_);rintro e2 w2 ⟨⟨q2,rfl⟩,hw2⟩;have HW2:Hid (Went b u2 (w.alloc (.cells zPr 187)) w2):=hI (HW1.out.trans hw2);clear hw2;clear _t tok1)
  | (go_at_call 201;(with_reducible refine (HM.out w2 HW2.out.rd).mono ?_);rintro e3 w3 ⟨rfl,hw3⟩;have HW3:Hid (Went b u3 (w.alloc (.cells zPr 187)) w3):=hI (HW2.out.trans hw3);clear hw3)
  | (go_at_call 200;(with_reducible refine (HB2.out w3 HW3.out.rd).mono ?_);rintro e4 w4 ⟨⟨q4,rfl⟩,hw4⟩;have HW4:Hid (Went b u4 (w.alloc (.cells zPr 187)) w4):=hI (HW3.out.trans hw4);clear hw4)
  | (go_at_call 225;(with_reducible refine (HV.out w4 (HA.out.next HW4.out HP4.out HZ4.out)).mono ?_);rintro e5 w5 ⟨rfl,hw5⟩;have HW5:Hid (Went b y (w.alloc (.cells zPr 187)) w5):=hI (HW4.out.trans hw5);have HG5:=hI (HW5.out.heap (heap_alloc_new w (.cells zPr 187)) HGB.out);clear hw5)
  | (refine wpList_store_row rfl _ _ _ rfl w.heap.size #[.string t,.string v] rfl rfl 187 zPr HG5.out zEI rfl (zIg _ _) ?_)
  | fail)
 exact bodyPost_ret (v:=.agg #[.string t,.string v]) (results_cell_row rfl _ _ _ _ _ _ _ rfl (setRow_heap _ _ _ #[.string t,.string v] _ _ HG5.out) underlying187 rfl zEI) rfl ⟨rfl,(Went.after (stpA (Below.refl _ _) _) HW5.out).setRow _ _ (Nat.le_refl _) HBT.out⟩
theorem zOH (b:Nat) (s t u1 u2:ByteArray) (u3 u4:ByteArray) (w:World) (h:At9 b s w) (ht:t.data.toList=s.data.toList.takeWhile wch) (hu1:u1.data.toList=s.data.toList.dropWhile wch) (hf:zAP (s.data.toList.takeWhile wch)=true) (hu2:u2.data.toList=u1.data.toList.dropWhile blk) (hu3:u2.data.toList=61::u3.data.toList) (hu4:u4.data.toList=u3.data.toList.dropWhile blk) (hv:valL u4.data.toList=none) :
 Calls prog 202 #[.pointer (some ⟨b,0,none⟩)] w λe w'=>e=zAR 80/\∃u,Went b u w w':=by
 have hz1:u1.size<=s.size:=by have:=zAJ wch s.data.toList;rw [←hu1,ba_l,ba_l] at this;exact this
 have hz2:u2.size<=u1.size:=by have:=zAJ blk u1.data.toList;rw [←hu2,ba_l,ba_l] at this;exact this
 have hsz:=h.sz;have hgb:w.heap.size≠b:=Nat.ne_of_gt h.rd.lt;have hp2:isP u2.data.toList=true:=by rw [hu2,hu1];exact zGl (zKP h.tx)
 have HF:Hid (∀o,Calls prog 199 #[.pointer (some ⟨b,0,none⟩)] (w.alloc o) λe w'=>e=.returned (.string t)/\Went b u1 (w.alloc o) w'):=hI λo=>zC2 b s t u1 (w.alloc o) (h.alloc o).rd (by omega) ht hu1 (ht ▸ hf)
 have HB1:Hid (∀W,Rd b u1 W->Calls prog 200 #[.pointer (some ⟨b,0,none⟩)] W λe w'=>(∃q,e=.returned (.bool q))/\Went b u2 W w'):=hI λW hW=>zDQ b u1 u2 W hW (by omega) hu2
 have hz3:u3.size+1=u2.size:=by have:=zB6 hu3;rw [List.length_cons,ba_l] at this;omega
 have hz4:u4.size<=u3.size:=by have:=zAJ blk u3.data.toList;rw [←hu4,ba_l,ba_l] at this;exact this
 have hp3:isP u3.data.toList=true:=by rw [hu3] at hp2;exact zIB hp2 (by decide)
 have HP4:Hid (isP u4.data.toList=true):=hI (by rw [hu4];exact zGl hp3);have HZ4:Hid (u4.size<=16384):=hI (by omega);have HM:Hid (∀W,Rd b u2 W->Calls prog 201 #[.pointer (some ⟨b,0,none⟩),.string ⟨#[61]⟩] W λe w'=>e=.returned (.tuple #[])/\Went b u3 W w'):=hI λW hW=>zBw b u2 u3 ⟨#[61]⟩ W hW (by rw [hu3];rfl)
 have HB2:Hid (∀W,Rd b u3 W->Calls prog 200 #[.pointer (some ⟨b,0,none⟩)] W λe w'=>(∃q,e=.returned (.bool q))/\Went b u4 W w'):=hI λW hW=>zDQ b u3 u4 W hW (by omega) hu4
 have HA:Hid (At9 b s (w.alloc (.cells zPr 187))):=hI (h.alloc _);have HGB:=hI hgb;have HV:Hid (∀W,At9 b u4 W->Calls prog 225 #[.pointer (some ⟨b,0,none⟩)] W λe w'=>e=zAR 80/\∃u,Went b u W w'):=hI λW hW=>zKu b u4 W hW hv
 unfold zAR at HV ⊢;clear h ht hu1 hf hu2 hz1 hz2 hsz hgb hp2 hu3 hu4 hv hz3 hz4 hp3;have tok1:True:=trivial
 go_enter func202,ntmps202
 go_wp2_with (first
  | (go_at_call 199;(with_reducible refine (HF.out _).mono ?_);rintro e1 w1 ⟨rfl,hw1⟩;have HW1:Hid (Went b u1 (w.alloc (.cells zPr 187)) w1):=hI hw1;clear hw1)
  | (have _t:=tok1;go_at_call 200;(with_reducible refine (HB1.out w1 HW1.out.rd).mono ?_);rintro e2 w2 ⟨⟨q2,rfl⟩,hw2⟩;have HW2:Hid (Went b u2 (w.alloc (.cells zPr 187)) w2):=hI (HW1.out.trans hw2);clear hw2;clear _t tok1)
  | (go_at_call 201;(with_reducible refine (HM.out w2 HW2.out.rd).mono ?_);rintro e3 w3 ⟨rfl,hw3⟩;have HW3:Hid (Went b u3 (w.alloc (.cells zPr 187)) w3):=hI (HW2.out.trans hw3);clear hw3)
  | (go_at_call 200;(with_reducible refine (HB2.out w3 HW3.out.rd).mono ?_);rintro e4 w4 ⟨⟨q4,rfl⟩,hw4⟩;have HW4:Hid (Went b u4 (w.alloc (.cells zPr 187)) w4):=hI (HW3.out.trans hw4);clear hw4)
  | (go_at_call 225;(with_reducible refine (HV.out w4 (HA.out.next HW4.out HP4.out HZ4.out)).mono ?_);rintro e5 w5 ⟨rfl,u5,hw5⟩)
  | fail)
 (try simp only [Exit.inBlock,Exit.then])
 exact ⟨rfl,rfl,_,Went.after (stpA (Below.refl _ _) _) (HW4.out.trans hw5)⟩
theorem zQR (b:Nat) (s t u1 u2:ByteArray) (w:World) (h:At9 b s w) (ht:t.data.toList=s.data.toList.takeWhile wch) (hu1:u1.data.toList=s.data.toList.dropWhile wch) (hf:zAP (s.data.toList.takeWhile wch)=true) (hu2:u2.data.toList=u1.data.toList.dropWhile blk) (hu3:∀r,u2.data.toList≠61::r) :
 Calls prog 202 #[.pointer (some ⟨b,0,none⟩)] w λe w'=>e=zAR 80/\∃u,Went b u w w':=by
 have hz1:u1.size<=s.size:=by have:=zAJ wch s.data.toList;rw [←hu1,ba_l,ba_l] at this;exact this
 have hz2:u2.size<=u1.size:=by have:=zAJ blk u1.data.toList;rw [←hu2,ba_l,ba_l] at this;exact this
 have hsz:=h.sz;have hgb:w.heap.size≠b:=Nat.ne_of_gt h.rd.lt;have hp2:isP u2.data.toList=true:=by rw [hu2,hu1];exact zGl (zKP h.tx)
 have HF:Hid (∀o,Calls prog 199 #[.pointer (some ⟨b,0,none⟩)] (w.alloc o) λe w'=>e=.returned (.string t)/\Went b u1 (w.alloc o) w'):=hI λo=>zC2 b s t u1 (w.alloc o) (h.alloc o).rd (by omega) ht hu1 (ht ▸ hf)
 have HB1:Hid (∀W,Rd b u1 W->Calls prog 200 #[.pointer (some ⟨b,0,none⟩)] W λe w'=>(∃q,e=.returned (.bool q))/\Went b u2 W w'):=hI λW hW=>zDQ b u1 u2 W hW (by omega) hu2
 have HM:Hid (∀W,Rd b u2 W->Calls prog 201 #[.pointer (some ⟨b,0,none⟩),.string ⟨#[61]⟩] W λe w'=>e=zAR 80/\Went b u2 W w'):=hI λW hW=>zFJ b u2 ⟨#[61]⟩ W hW (pre1 hu3)
 unfold zAR at HM ⊢;clear h ht hu1 hf hu2 hz1 hz2 hsz hgb hp2 hu3;have tok1:True:=trivial
 go_enter func202,ntmps202
 go_wp2_with (first
  | (go_at_call 199;(with_reducible refine (HF.out _).mono ?_);rintro e1 w1 ⟨rfl,hw1⟩;have HW1:Hid (Went b u1 (w.alloc (.cells zPr 187)) w1):=hI hw1;clear hw1)
  | (have _t:=tok1;go_at_call 200;(with_reducible refine (HB1.out w1 HW1.out.rd).mono ?_);rintro e2 w2 ⟨⟨q2,rfl⟩,hw2⟩;have HW2:Hid (Went b u2 (w.alloc (.cells zPr 187)) w2):=hI (HW1.out.trans hw2);clear hw2;clear _t tok1)
  | (go_at_call 201;(with_reducible refine (HM.out w2 HW2.out.rd).mono ?_);rintro e3 w3 ⟨rfl,hw3⟩)
  | fail)
 (try simp only [Exit.inBlock,Exit.then])
 exact ⟨rfl,rfl,_,Went.after (stpA (Below.refl _ _) _) (HW2.out.trans hw3)⟩
theorem zM0 (b:Nat) (s:ByteArray) (w:World) (h:At9 b s w) (hf:zAP (s.data.toList.takeWhile wch)=false) :
 Calls prog 202 #[.pointer (some ⟨b,0,none⟩)] w λe w'=>e=zAR 80/\∃u,Went b u w w':=by
 have hsz:=h.sz;have HF:Hid (∀o,Calls prog 199 #[.pointer (some ⟨b,0,none⟩)] (w.alloc o) λe w'=>e=zAR 80/\∃u,Went b u (w.alloc o) w'):=hI λo=>zJN b s (w.alloc o) (h.alloc o).rd (by omega) hf
 unfold zAR at HF ⊢;clear h hf hsz
 go_enter func202,ntmps202
 go_wp2_with (first
  | (go_at_call 199;(with_reducible refine (HF.out _).mono ?_);rintro e1 w1 ⟨rfl,u1,hw1⟩)
  | fail)
 (try simp only [Exit.inBlock,Exit.then])
 exact ⟨rfl,rfl,_,Went.after (stpA (Below.refl _ _) _) hw1⟩
theorem zNA (b:Nat) (s nm v y:ByteArray) (w:World) (h:At9 b s w) (ha:zB2 s.data.toList=some (⟨nm.data.toList,v.data.toList⟩,y.data.toList)) :
 Calls prog 202 #[.pointer (some ⟨b,0,none⟩)] w λe w'=>e=.returned (.agg #[.string nm,.string v])/\Went b y w w':=by
 cases hf:zAP (s.data.toList.takeWhile wch) with
 | false=>rw [zHy hf] at ha;cases ha
 | true =>
  rw [zE5 hf] at ha;obtain ⟨t,ht⟩:=mk_l (s.data.toList.takeWhile wch);obtain ⟨u1,hu1⟩:=mk_l (s.data.toList.dropWhile wch);obtain ⟨u2,hu2⟩:=mk_l (u1.data.toList.dropWhile blk);rw [←hu1,←hu2] at ha
  cases h2:u2.data.toList with
  | nil=>rw [h2] at ha;cases ha
  | cons c r =>
   rw [h2] at ha;dsimp only at ha
   by_cases hc:c=61
   · subst hc
     rw [if_pos rfl] at ha;obtain ⟨u3,hu3⟩:=mk_l r;obtain ⟨u4,hu4⟩:=mk_l (u3.data.toList.dropWhile blk);rw [←hu3,←hu4] at ha
     cases hv:valL u4.data.toList with
     | none=>rw [hv] at ha;cases ha
     | some p =>
      rw [hv] at ha;obtain ⟨e1,e2⟩:=(Prod.mk.injEq _ _ _ _).mp (Option.some.inj ha);injection e1 with e3 e4;rw [←ht] at e3;obtain rfl:=ba_x e3;exact zNx b s t u1 u2 u3 u4 v y w h ht hu1 hf hu2 (by rw [h2,hu3]) hu4 (by rw [hv,←e4,←e2])
   · rw [if_neg hc] at ha;cases ha
theorem zMS (b:Nat) (s:ByteArray) (w:World) (h:At9 b s w) (ha:zB2 s.data.toList=none) :
 Calls prog 202 #[.pointer (some ⟨b,0,none⟩)] w λe w'=>e=zAR 80/\∃u,Went b u w w':=by
 cases hf:zAP (s.data.toList.takeWhile wch) with
 | false=>exact zM0 b s w h hf
 | true =>
  rw [zE5 hf] at ha;obtain ⟨t,ht⟩:=mk_l (s.data.toList.takeWhile wch);obtain ⟨u1,hu1⟩:=mk_l (s.data.toList.dropWhile wch);obtain ⟨u2,hu2⟩:=mk_l (u1.data.toList.dropWhile blk);rw [←hu1,←hu2] at ha
  by_cases h2:∃r,u2.data.toList=61::r
  · obtain ⟨r,h2⟩:=h2
    rw [h2] at ha;dsimp only at ha;rw [if_pos rfl] at ha;obtain ⟨u3,hu3⟩:=mk_l r;obtain ⟨u4,hu4⟩:=mk_l (u3.data.toList.dropWhile blk);rw [←hu3,←hu4] at ha
    exact zOH b s t u1 u2 u3 u4 w h ht hu1 hf hu2 (by rw [h2,hu3]) hu4 (by
     cases hv:valL u4.data.toList with
     | none=>rfl
     | some p=>rw [hv] at ha;cases ha)
  · exact zQR b s t u1 u2 w h ht hu1 hf hu2 λr e=>h2 ⟨r,e⟩
theorem zOh (b:Nat) (s t u1 u2:ByteArray) (u3:ByteArray) (w:World) (h:At9 b s w) (ht:t.data.toList=s.data.toList.takeWhile wch) (hu1:u1.data.toList=s.data.toList.dropWhile wch) (hf:zAP (s.data.toList.takeWhile wch)=true) (hu2:u2.data.toList=u1.data.toList.dropWhile blk) (hu3:u2.data.toList=62::u3.data.toList) :
 Calls prog 173 #[.pointer (some ⟨b,0,none⟩)] w λe w'=>e=.returned (.agg #[.int .u8 2,.string t,.slice none 0 0,.string ⟨#[]⟩])/\Went b u3 w w':=by
 have hz1:u1.size<=s.size:=by have:=zAJ wch s.data.toList;rw [←hu1,ba_l,ba_l] at this;exact this
 have hz2:u2.size<=u1.size:=by have:=zAJ blk u1.data.toList;rw [←hu2,ba_l,ba_l] at this;exact this
 have hsz:=h.sz;have hgb:w.heap.size≠b:=Nat.ne_of_gt h.rd.lt;have hp2:isP u2.data.toList=true:=by rw [hu2,hu1];exact zGl (zKP h.tx)
 have HF:Hid (∀o,Calls prog 199 #[.pointer (some ⟨b,0,none⟩)] (w.alloc o) λe w'=>e=.returned (.string t)/\Went b u1 (w.alloc o) w'):=hI λo=>zC2 b s t u1 (w.alloc o) (h.alloc o).rd (by omega) ht hu1 (ht ▸ hf)
 have HB1:Hid (∀W,Rd b u1 W->Calls prog 200 #[.pointer (some ⟨b,0,none⟩)] W λe w'=>(∃q,e=.returned (.bool q))/\Went b u2 W w'):=hI λW hW=>zDQ b u1 u2 W hW (by omega) hu2
 have HGB:=hI hgb;have HBT:Hid (b<w.heap.size):=h.rd.lt;have HM:Hid (∀W,Rd b u2 W->Calls prog 201 #[.pointer (some ⟨b,0,none⟩),.string ⟨#[62]⟩] W λe w'=>e=.returned (.tuple #[])/\Went b u3 W w'):=hI λW hW=>zBw b u2 u3 ⟨#[62]⟩ W hW (by rw [hu3];rfl)
 clear h ht hu1 hf hu2 hz1 hz2 hsz hgb hp2 hu3
 go_enter func173,ntmps173
 go_wp2_with (first
  | (go_at_call 199;(with_reducible refine (HF.out _).mono ?_);rintro e1 w1 ⟨rfl,hw1⟩;have HW1:Hid (Went b u1 (w.alloc (.cells zTk 131)) w1):=hI hw1;clear hw1)
  | (refine wpList_store_row rfl _ _ _ rfl w1.heap.size #[.int .u8 2,.string t,.slice none 0 0,.string ⟨#[]⟩] rfl rfl 131 zTk (heap_alloc_new _ _) zAo rfl (zCs _ _ _ _) ?_;rw [World.setRow_alloc_new])
  | (go_at_call 200;(with_reducible refine (HB1.out _ (HW1.out.rd.below (stpA (Below.refl _ _) _))).mono ?_);rintro e2 w2 ⟨⟨q2,rfl⟩,hw2⟩;have HX2:Hid (Went b u2 (w1.alloc (.cells #[.int .u8 2,.string t,.slice none 0 0,.string ⟨#[]⟩] 131)) w2):=hI hw2;have HW2:Hid (Went b u2 (w.alloc (.cells zTk 131)) w2):=hI (HW1.out.trans (Went.after (stpA (Below.refl _ _) _) hw2));clear hw2)
  | (go_at_call 201;(with_reducible refine (HM.out w2 HW2.out.rd).mono ?_);rintro e3 w3 ⟨rfl,hw3⟩;have HW3:Hid (Went b u3 (w.alloc (.cells zTk 131)) w3):=hI (HW2.out.trans hw3);have HX3:Hid (Went b u3 (w1.alloc (.cells #[.int .u8 2,.string t,.slice none 0 0,.string ⟨#[]⟩] 131)) w3):=hI (HX2.out.trans hw3);have HG3:=hI (HW3.out.heap (heap_alloc_new w (.cells zTk 131)) HGB.out);have HL3:=hI (HX3.out.heap (heap_alloc_new w1 (.cells #[.int .u8 2,.string t,.slice none 0 0,.string ⟨#[]⟩] 131)) (Nat.ne_of_gt HW1.out.rd.lt));clear hw3)
  | (refine wpList_load_row rfl _ _ rfl w1.heap.size rfl 131 #[.int .u8 2,.string t,.slice none 0 0,.string ⟨#[]⟩] (0,0) _ HL3.out underlying131 rfl zAo ?_)
  | (refine wpList_store_row rfl _ _ _ rfl w.heap.size #[.int .u8 2,.string t,.slice none 0 0,.string ⟨#[]⟩] rfl rfl 131 zTk HG3.out zAo rfl (zCs _ _ _ _) ?_)
  | fail)
 exact bodyPost_ret (v:=.agg #[.int .u8 2,.string t,.slice none 0 0,.string ⟨#[]⟩]) (results_cell_row rfl _ _ _ _ _ _ _ rfl (setRow_heap _ _ _ #[.int .u8 2,.string t,.slice none 0 0,.string ⟨#[]⟩] _ _ HG3.out) underlying131 rfl zAo) rfl ⟨rfl,(Went.after (stpA (Below.refl _ _) _) HW3.out).setRow _ _ (Nat.le_refl _) HBT.out⟩
theorem zQ2 (b:Nat) (s t u1 u2:ByteArray) (w:World) (h:At9 b s w) (ht:t.data.toList=s.data.toList.takeWhile wch) (hu1:u1.data.toList=s.data.toList.dropWhile wch) (hf:zAP (s.data.toList.takeWhile wch)=true) (hu2:u2.data.toList=u1.data.toList.dropWhile blk) (hu3:∀r,u2.data.toList≠62::r) :
 Calls prog 173 #[.pointer (some ⟨b,0,none⟩)] w λe w'=>e=zAR 80/\∃u,Went b u w w':=by
 have hz1:u1.size<=s.size:=by have:=zAJ wch s.data.toList;rw [←hu1,ba_l,ba_l] at this;exact this
 have hz2:u2.size<=u1.size:=by have:=zAJ blk u1.data.toList;rw [←hu2,ba_l,ba_l] at this;exact this
 have hsz:=h.sz;have hgb:w.heap.size≠b:=Nat.ne_of_gt h.rd.lt;have hp2:isP u2.data.toList=true:=by rw [hu2,hu1];exact zGl (zKP h.tx)
 have HF:Hid (∀o,Calls prog 199 #[.pointer (some ⟨b,0,none⟩)] (w.alloc o) λe w'=>e=.returned (.string t)/\Went b u1 (w.alloc o) w'):=hI λo=>zC2 b s t u1 (w.alloc o) (h.alloc o).rd (by omega) ht hu1 (ht ▸ hf)
 have HB1:Hid (∀W,Rd b u1 W->Calls prog 200 #[.pointer (some ⟨b,0,none⟩)] W λe w'=>(∃q,e=.returned (.bool q))/\Went b u2 W w'):=hI λW hW=>zDQ b u1 u2 W hW (by omega) hu2
 have HM:Hid (∀W,Rd b u2 W->Calls prog 201 #[.pointer (some ⟨b,0,none⟩),.string ⟨#[62]⟩] W λe w'=>e=zAR 80/\Went b u2 W w'):=hI λW hW=>zFJ b u2 ⟨#[62]⟩ W hW (pre1 hu3)
 unfold zAR at HM ⊢;clear h ht hu1 hf hu2 hz1 hz2 hsz hgb hp2 hu3
 go_enter func173,ntmps173
 go_wp2_with (first
  | (go_at_call 199;(with_reducible refine (HF.out _).mono ?_);rintro e1 w1 ⟨rfl,hw1⟩;have HW1:Hid (Went b u1 (w.alloc (.cells zTk 131)) w1):=hI hw1;clear hw1)
  | (refine wpList_store_row rfl _ _ _ rfl w1.heap.size #[.int .u8 2,.string t,.slice none 0 0,.string ⟨#[]⟩] rfl rfl 131 zTk (heap_alloc_new _ _) zAo rfl (zCs _ _ _ _) ?_;rw [World.setRow_alloc_new])
  | (go_at_call 200;(with_reducible refine (HB1.out _ (HW1.out.rd.below (stpA (Below.refl _ _) _))).mono ?_);rintro e2 w2 ⟨⟨q2,rfl⟩,hw2⟩;have HX2:Hid (Went b u2 (w1.alloc (.cells #[.int .u8 2,.string t,.slice none 0 0,.string ⟨#[]⟩] 131)) w2):=hI hw2;have HW2:Hid (Went b u2 (w.alloc (.cells zTk 131)) w2):=hI (HW1.out.trans (Went.after (stpA (Below.refl _ _) _) hw2));clear hw2)
  | (go_at_call 201;(with_reducible refine (HM.out w2 HW2.out.rd).mono ?_);rintro e3 w3 ⟨rfl,hw3⟩)
  | fail)
 (try simp only [Exit.inBlock,Exit.then])
 exact ⟨rfl,rfl,_,Went.after (stpA (Below.refl _ _) _) (HW2.out.trans hw3)⟩
theorem zLX (b:Nat) (s:ByteArray) (w:World) (h:At9 b s w) (hf:zAP (s.data.toList.takeWhile wch)=false) :
 Calls prog 173 #[.pointer (some ⟨b,0,none⟩)] w λe w'=>e=zAR 80/\∃u,Went b u w w':=by
 have hsz:=h.sz;have HF:Hid (∀o,Calls prog 199 #[.pointer (some ⟨b,0,none⟩)] (w.alloc o) λe w'=>e=zAR 80/\∃u,Went b u (w.alloc o) w'):=hI λo=>zJN b s (w.alloc o) (h.alloc o).rd (by omega) hf
 unfold zAR at HF ⊢;clear h hf hsz
 go_enter func173,ntmps173
 go_wp2_with (first
  | (go_at_call 199;(with_reducible refine (HF.out _).mono ?_);rintro e1 w1 ⟨rfl,u1,hw1⟩)
  | fail)
 (try simp only [Exit.inBlock,Exit.then])
 exact ⟨rfl,rfl,_,Went.after (stpA (Below.refl _ _) _) hw1⟩
theorem zM7 (b:Nat) (s t y:ByteArray) (w:World) (h:At9 b s w) (ha:zDl s.data.toList=some (⟨2,t.data.toList,[],[]⟩,y.data.toList)) :
 Calls prog 173 #[.pointer (some ⟨b,0,none⟩)] w λe w'=>e=.returned (.agg #[.int .u8 2,.string t,.slice none 0 0,.string ⟨#[]⟩])/\Went b y w w':=by
 cases hf:zAP (s.data.toList.takeWhile wch) with
 | false=>rw [zHv hf] at ha;cases ha
 | true =>
  rw [zEf hf] at ha;obtain ⟨x,hx⟩:=mk_l (s.data.toList.takeWhile wch);obtain ⟨u1,hu1⟩:=mk_l (s.data.toList.dropWhile wch);obtain ⟨u2,hu2⟩:=mk_l (u1.data.toList.dropWhile blk);rw [←hu1,←hu2,←hx] at ha
  cases h2:u2.data.toList with
  | nil=>rw [h2] at ha;cases ha
  | cons c r =>
   rw [h2] at ha;dsimp only at ha
   by_cases hc:c=62
   · subst hc
     rw [if_pos rfl] at ha;obtain ⟨e1,e2⟩:=(Prod.mk.injEq _ _ _ _).mp (Option.some.inj ha);injection e1 with _ e3;obtain rfl:=ba_x e3;exact zOh b s x u1 u2 y w h hx hu1 hf hu2 (by rw [h2,e2])
   · rw [if_neg hc] at ha;cases ha
theorem zMr (b:Nat) (s:ByteArray) (w:World) (h:At9 b s w) (ha:zDl s.data.toList=none) :
 Calls prog 173 #[.pointer (some ⟨b,0,none⟩)] w λe w'=>e=zAR 80/\∃u,Went b u w w':=by
 cases hf:zAP (s.data.toList.takeWhile wch) with
 | false=>exact zLX b s w h hf
 | true =>
  rw [zEf hf] at ha;obtain ⟨x,hx⟩:=mk_l (s.data.toList.takeWhile wch);obtain ⟨u1,hu1⟩:=mk_l (s.data.toList.dropWhile wch);obtain ⟨u2,hu2⟩:=mk_l (u1.data.toList.dropWhile blk);rw [←hu1,←hu2] at ha;refine zQ2 b s x u1 u2 w h hx hu1 hf hu2 λr e=>?_
  rw [e] at ha;dsimp only at ha;rw [if_pos rfl] at ha
  cases ha
def zBn (l:List UInt8):Except Int (Bool × List Pr × List UInt8):=match tagH l with
 | none=>.error 80
 | some (b,m,x)=>if zBg [] m=true then (if 16<m.length then .error 4 else .ok (b,m,x)) else .error 80
structure TgS (w:World) (b g2 g3:Nat) (t:ByteArray) (z:Int) (L:List PB) (v:Value) (u:ByteArray) (wr:World):Prop where
 gr:w.grownBy wr (some b)
 rd:Rd b u wr
 c2:wr.heap[g2]?=some (.cells zTk 131 (0,0))
 c3:wr.heap[g3]?=some (.cells #[.int .u8 z,.string t,v,.string ⟨#[]⟩] 131 (0,0))
 own:wr.ownsRow (g3+1) 187 2 v L.length (L.flatMap zBV)
section
variable {w:World} {b g2 g3:Nat} {t:ByteArray} {z:Int} {L:List PB} {v:Value} {u:ByteArray} {wr:World}
theorem TgS.went (h:TgS w b g2 g3 t z L v u wr) (hb:b<g2) (hg:g2<g3) {u':ByteArray} {wr':World} (k:Went b u' wr wr'):TgS w b g2 g3 t z L v u' wr' :=
 ⟨h.gr.trans k.gr,k.rd,k.heap h.c2 (by omega),k.heap h.c3 (by omega),h.own.kept k.gr (by
  cases hv:v.ownBlock with
  | none=>exact .inl rfl
  | some q =>
   right
   intro e;have:=(h.own.lt q hv).1;injection e with e
   omega)⟩
theorem TgS.below (h:TgS w b g2 g3 t z L v u wr) {wr':World} (k:Below wr.heap.size wr wr'):TgS w b g2 g3 t z L v u wr' :=
 ⟨h.gr.trans (zBS k _),h.rd.below k,zAB h.c2 k,zAB h.c3 k,zAF h.own k (Nat.le_refl _)⟩
theorem TgS.cell (h:TgS w b g2 g3 t z L v u wr) (k:Nat):wr.cell? ⟨g3,k,none⟩=(#[.int .u8 z,.string t,v,.string ⟨#[]⟩]:Array Value)[k]?:=zAA wr g3 k _ _ _ h.c3
theorem TgS.free (h:TgS w b g2 g3 t z L v u wr) (k:Nat):wr.frozen? ⟨g3,k,none⟩=false:=zAZ wr g3 k _ _ h.c3
theorem zBq (w:World) (g k:Nat) (cs:Array Value) (T:TypeId) (x:Value) (h:w.heap[g]?=some (.cells cs T (0,0))):(w.setCell ⟨g,k,none⟩ x).heap[g]?=some (.cells (cs.setIfInBounds k x) T (0,0)):=by
 simp [World.setCell,Array.getElem?_modify,h]
theorem TgS.kind (h:TgS w b g2 g3 t z L v u wr) (hb:b<g2) (hg:g2<g3) (hw:w.heap.size<=g2) (z':Int):TgS w b g2 g3 t z' L v u (wr.setCell ⟨g3,0,none⟩ (.int .u8 z')):=by
 refine ⟨⟨h.gr.os,h.gr.tape,h.gr.output,by have:=h.gr.size;simpa [World.setCell] using this,λk hk hne=>(zAH wr g3 0 k _ (by omega)).trans (h.gr.block k hk hne)⟩,(zAH wr g3 0 b _ (by omega)).trans h.rd,(zAH wr g3 0 g2 _ (by omega)).trans h.c2,?_,zAf h.own g3 0 (by omega) _⟩;have:=zBq wr g3 0 _ _ (.int .u8 z') h.c3
 simpa using this
theorem TgS.went_all (h:TgS w b g2 g3 t z L v u wr):Went b u w wr:=⟨h.rd,h.gr⟩
end
theorem zDM {l:List UInt8} (h:tagH l=none):zBn l=.error 80:=by unfold zBn;rw [h]
theorem zBP {l x:List UInt8} {q:Bool} {m:List Pr} (h:tagH l=some (q,m,x)):zBn l=if zBg [] m=true then (if 16<m.length then .error 4 else .ok (q,m,x)) else .error 80:=by unfold zBn;rw [h]
def zCM (l0 l:List UInt8) (m:List Pr):Prop:=tagH l0=(tagH l).map λq=>(q.1,m++q.2.1,q.2.2)
theorem zCM.start (l:List UInt8):zCM l l []:=by
 unfold zCM
 cases tagH l <;> rfl
theorem zCM.next {l0 l y:List UInt8} {m:List Pr} {p:Pr} (h:zCM l0 l m) (k:tagH l=(tagH y).map λq=>(q.1,p::q.2.1,q.2.2)):zCM l0 y (m++[p]):=by
 unfold zCM at h ⊢;rw [h,k]
 cases tagH y <;> simp
def TgTo (b:Nat) (t u1:ByteArray) (w:World) (e:Ending) (w':World):Prop :=
 (∃er,zBn u1.data.toList=.error er/\e=zAR er/\∃u,Went b u w w') ∨
 ∃(q:Bool) (k:Nat) (m:List Pr) (y:ByteArray) (A:Option Addr) (n c:Nat),zBn u1.data.toList=.ok (q,m,y.data.toList)/\k=(if q then 3 else 1)/\m.length=n/\e=.returned (.agg #[.int .u8 (k:Int),.string t,.slice A n c,.string ⟨#[]⟩])/\Went b y w w' ∧
  TkR w.heap.size w' #[.int .u8 (k:Int),.string t,.slice A n c,.string ⟨#[]⟩] ⟨k,t.data.toList,m,[]⟩
theorem TgS.first (w:World) (b:Nat) (t u1:ByteArray) (w1:World) (h:Went b u1 (w.alloc (.cells zTk 131)) w1) (hb:b<w.heap.size):TgS w b w.heap.size w1.heap.size t 0 [] (.slice none 0 0) u1 (w1.alloc (.cells #[.int .u8 0,.string t,.slice none 0 0,.string ⟨#[]⟩] 131)):=by
 have hk:=stpA (Below.refl w1.heap.size w1) (.cells #[.int .u8 0,.string t,.slice none 0 0,.string ⟨#[]⟩] 131);refine ⟨(zBS (stpA (Below.refl w.heap.size w) (.cells zTk 131)) _).trans (h.gr.trans (zBS hk _)),h.rd.below hk,zAB (h.heap (heap_alloc_new w (.cells zTk 131)) (by omega)) hk,heap_alloc_new _ _,World.ownsRow_nil _ _ _ _⟩
theorem TgS.push {w:World} {b g2 g3:Nat} {t:ByteArray} {L:List PB} {A:Option Addr} {c g4 c4:Nat} {y nm vl:ByteArray} {w5 w6:World} {ob:Obj} (h:TgS w b g2 g3 t 0 L (.slice A L.length c) y w5) (hb:b<g2) (hg:g2<g3) (hw:w.heap.size<=g2)
 (hown:w6.ownsRow (g3+1) 187 2 (.slice (some ⟨g4,0,none⟩) (L.length+1) c4) (L.length+1) (L.flatMap zBV++[.string nm,.string vl])) (hgr:(w5.alloc ob).grownBy w6 (Value.slice A L.length c).ownBlock) :
 TgS w b g2 g3 t 0 (L++[(nm,vl)]) (.slice (some ⟨g4,0,none⟩) (L.length+1) c4) y (w6.setCell ⟨g3,2,none⟩ (.slice (some ⟨g4,0,none⟩) (L.length+1) c4)):=by
 have hne:∀k,k<=g3->some k≠(Value.slice A L.length c).ownBlock:=λk hk e=>by have:=(h.own.lt k e.symm).1;omega
 have stay:∀k o,k<=g3->w5.heap[k]?=some o->w6.heap[k]?=some o:=λk o hk ho=>by
  have h1:=zAB ho (stpA (Below.refl w5.heap.size w5) ob);exact (hgr.block k (Array.getElem?_eq_some_iff.1 h1).1 (hne k hk)).trans h1
 have hsz:w5.heap.size<=w6.heap.size:=Nat.le_trans (by simp) hgr.size;have ho2:=zBq w6 g3 2 _ _ (.slice (some ⟨g4,0,none⟩) (L.length+1) c4) (stay g3 _ (Nat.le_refl _) h.c3);refine ⟨⟨hgr.os.trans h.gr.os,hgr.tape.trans h.gr.tape,hgr.output.trans h.gr.output,by have:=h.gr.size;simp [World.setCell];omega,λk hk hkb=>?_⟩,(zAH w6 g3 2 b _ (by omega)).trans (stay b _ (by omega) h.rd),(zAH w6 g3 2 g2 _ (by omega)).trans (stay g2 _ (by omega) h.c2),?_,?_⟩
 · rw [zAH w6 g3 2 k _ (by omega)]
   have hk5:k<w5.heap.size:=Nat.lt_of_lt_of_le hk h.gr.size;rw [hgr.block k (by simp;omega) (hne k (by omega)),Below.heap_alloc _ _ _ hk5];exact h.gr.block k hk hkb
 · simpa using ho2
 · have:=zAf hown g3 2 (by omega) (.slice (some ⟨g4,0,none⟩) (L.length+1) c4)
   rw [List.length_append,List.flatMap_append]
   simpa [zBV] using this
theorem TgS.reads {w:World} {b g2 g3:Nat} {t:ByteArray} {z:Int} {L:List PB} {A:Option Addr} {c:Nat} {y:ByteArray} {W:World} (h:TgS w b g2 g3 t z L (.slice A L.length c) y W):RdC PrC W W.heap.size A (L.map zB1)/\L.length<=c:=by
 obtain ⟨h1,_,h3,_⟩:=zEn h.own;exact ⟨h1,h3⟩
theorem zHW (b:Nat) (s t u1:ByteArray) (w:World) (h:At9 b s w) (ht:t.data.toList=s.data.toList.takeWhile wch) (hu1:u1.data.toList=s.data.toList.dropWhile wch) (hf:zAP (s.data.toList.takeWhile wch)=true) :
 Calls prog 174 #[.pointer (some ⟨b,0,none⟩)] w (TgTo b t u1 w):=by
 obtain ⟨i0,hi,hz0,hz1,hz2⟩:=info_parts zPj;have HI:=hI hi;have HZ0:=hI hz0;have HZ1:=hI hz1;have HZ2:=hI hz2;have hsz:=h.sz;have hus:u1.size<=16384:=by have:=zAJ wch s.data.toList;rw [←hu1,ba_l,ba_l] at this;omega
 have HF:Hid (∀o,Calls prog 199 #[.pointer (some ⟨b,0,none⟩)] (w.alloc o) λe w'=>e=.returned (.string t)/\Went b u1 (w.alloc o) w'):=hI λo=>zC2 b s t u1 (w.alloc o) (h.alloc o).rd (by omega) ht hu1 (ht ▸ hf)
 have HP1:Hid (isP u1.data.toList=true):=hI (by rw [hu1];exact zKP h.tx);have HUS:=hI hus;have HBT:Hid (b<w.heap.size):=h.rd.lt;have HEV:Hid (∀u W,w.grownBy W (some b)->Rd b u W->Ev9 W):=hI λu W hg _=>Ev9.went (t:=u) h.ev h.rd hg
 clear h ht hu1 hf hsz hi hz0 hz1 hz2 hus
 go_enter func174,ntmps174
 go_wp2_with fail
 go_step3
 go_wp2_with (first
  | (go_at_call 199;(with_reducible refine (HF.out _).mono ?_);rintro e1 w1 ⟨rfl,hw1⟩;have HW1:Hid (Went b u1 (w.alloc (.cells zTk 131)) w1):=hI hw1;have HG12:Hid (w.heap.size<w1.heap.size):=hI (by have:=hw1.gr.size;simp at this;omega);have HST:Hid (TgS w b w.heap.size w1.heap.size t 0 [] (.slice none 0 0) u1 (w1.alloc (.cells #[.int .u8 0,.string t,.slice none 0 0,.string ⟨#[]⟩] 131))):=hI (TgS.first w b t u1 w1 hw1 HBT.out);clear hw1)
  | (refine wpList_store_row rfl _ _ _ rfl w1.heap.size #[.int .u8 0,.string t,.slice none 0 0,.string ⟨#[]⟩] rfl rfl 131 zTk (heap_alloc_new _ _) zAo rfl (zCs _ _ _ _) ?_;rw [World.setRow_alloc_new])
  | fail)
 go_step3
 go_wp2_with fail
 (try simp only [Act.put])
 go_loopg [4] 20000 (λgg v4 wr=>∃(L:List PB) (v:Value) (u:ByteArray),u.size<=gg/\TgS w b w.heap.size w1.heap.size t 0 L v u wr/\zCM u1.data.toList u.data.toList (L.map zB1)/\L.length+u.size<=16384/\isP u.data.toList=true/\(∀p∈L,(zB1 p).name.length<=16384))
 case atStart =>
  exact ⟨[],.slice none 0 0,u1,by have:=HUS.out;omega,HST.out,zCM.start _,by have:=HUS.out;simpa using this,HP1.out,by simp⟩
 case round =>
  obtain ⟨L,v,u,hg,hst,hmid,hlen,hpu,hnm⟩:=hrel;obtain ⟨A,c,rfl⟩:=zAD hst.own;obtain ⟨u2,hu2⟩:=mk_l (u.data.toList.dropWhile blk);have hle2:u2.size<=u.size:=by have:=zAJ blk u.data.toList;rw [←hu2,ba_l,ba_l] at this;exact this
  have hp2:isP u2.data.toList=true:=by rw [hu2];exact zGl hpu
  obtain ⟨q,hq⟩:∃q,decide (u.size≠u2.size)=q:=⟨_,rfl⟩;have HB:Hid (Calls prog 200 #[.pointer (some ⟨b,0,none⟩)] wr λe w'=>e=.returned (.bool q)/\Went b u2 wr w'):=hI (zPY b u u2 q wr hst.rd (by omega) hu2 hq);have HST0:=hI hst;have hG:=HG12.out;have hbt:=HBT.out;have HNM:=hI hnm;have HLEN:=hI hlen;have HMID:=hI hmid
  have HTW:Hid (∀W z y,TgS w b w.heap.size w1.heap.size t z L (.slice A L.length c) y W->∀q2,(!zBg [] (L.map zB1))=q2->Calls prog 203 #[.slice A L.length c] W λe w'=>e=.returned (.bool q2)/\Below W.heap.size W w'):=hI λW z y hW q2 hq2 =>
   zNG A L.length c (L.map zB1) W hW.reads.1 (List.length_map _) hW.reads.2 (by omega) (λp hp=>by obtain ⟨pb,h1,rfl⟩:=List.mem_map.1 hp;have:=hnm pb h1;omega) q2 hq2
  by_cases h62:∃y',u2.data.toList=62::y'
  · obtain ⟨y',h2⟩:=h62
    obtain ⟨y,hy⟩:=mk_l y';have hu3:u2.data.toList=62::y.data.toList:=by rw [h2,hy]
    have HOUT:Hid (tagH u1.data.toList=some (false,L.map zB1,y.data.toList)):=hI (by
     have:=hmid;unfold zCM at this;rw [this,zM1 (by rw [←hu2];exact hu3)]
     simp)
    have HT1:Hid (∀W,Rd b u2 W->Calls prog 172 #[.pointer (some ⟨b,0,none⟩),.string ⟨#[62]⟩] W λe w'=>e=.returned (.bool true)/\Went b y W w'):=hI λW hW=>zBv b u2 y ⟨#[62]⟩ W hW (by rw [hu3];rfl)
    clear h2 hy hu3 hu2 hle2 hp2 hq hst hmid hpu hG hbt hnm hlen hg
    cases hfr:zBg [] (L.map zB1) with
    | false =>
     have HFR:Hid ((!zBg [] (L.map zB1))=true):=hI (by rw [hfr];rfl);have HERR:Hid (zBn u1.data.toList=.error 80):=hI (by rw [zBP HOUT.out,hfr,if_neg (by decide)]);clear hfr
     go_wp2_with (first
      | (go_at_call 200;(with_reducible refine (HB.out).mono ?_);rintro e2 w2 ⟨rfl,hw2⟩;have HS2:Hid (TgS w b w.heap.size w1.heap.size t 0 L (.slice A L.length c) u2 w2):=hI (HST0.out.went HBT.out HG12.out hw2);clear hw2)
      | (go_at_call 172;(with_reducible refine (HT1.out w2 HS2.out.rd).mono ?_);rintro e3 w3 ⟨rfl,hw3⟩;have HS3:Hid (TgS w b w.heap.size w1.heap.size t 0 L (.slice A L.length c) y w3):=hI (HS2.out.went HBT.out HG12.out hw3);have k03:=HS3.out.cell 0;have k23:=HS3.out.cell 2;have f03:=HS3.out.free 0;have f23:=HS3.out.free 2;have HK:Hid (TgS w b w.heap.size w1.heap.size t 1 L (.slice A L.length c) y (w3.setCell ⟨w1.heap.size,0,none⟩ (.int .u8 1))):=hI (HS3.out.kind HBT.out HG12.out (Nat.le_refl _) 1);have kk2:=HK.out.cell 2;clear hw3)
      | (go_at_call 203;(with_reducible refine (HTW.out (w3.setCell ⟨w1.heap.size,0,none⟩ (.int .u8 1)) 1 y HK.out true HFR.out).mono ?_);rintro e4 w4 ⟨rfl,hb4⟩;have HK4:Hid (TgS w b w.heap.size w1.heap.size t 1 L (.slice A L.length c) y w4):=hI (HK.out.below hb4);have k24:=HK4.out.cell 2;clear hb4)
      | fail)
     (try simp only [Exit.inBlock,Exit.then,Exit.noGoto])
     exact ⟨rfl,.inl ⟨80,HERR.out,rfl,_,HK4.out.went_all⟩⟩
    | true =>
     have HFR:Hid ((!zBg [] (L.map zB1))=false):=hI (by rw [hfr];rfl)
     by_cases h16:16<L.length
     · have g16:decide ((16:Int)<(L.length:Int))=true:=decide_eq_true (by omega)
       have HERR:Hid (zBn u1.data.toList=.error 4):=hI (by rw [zBP HOUT.out,hfr,if_pos rfl,if_pos (by rw [List.length_map];exact h16)]);clear hfr h16
       go_wp2_with (first
        | (go_at_call 200;(with_reducible refine (HB.out).mono ?_);rintro e2 w2 ⟨rfl,hw2⟩;have HS2:Hid (TgS w b w.heap.size w1.heap.size t 0 L (.slice A L.length c) u2 w2):=hI (HST0.out.went HBT.out HG12.out hw2);clear hw2)
        | (go_at_call 172;(with_reducible refine (HT1.out w2 HS2.out.rd).mono ?_);rintro e3 w3 ⟨rfl,hw3⟩;have HS3:Hid (TgS w b w.heap.size w1.heap.size t 0 L (.slice A L.length c) y w3):=hI (HS2.out.went HBT.out HG12.out hw3);have k03:=HS3.out.cell 0;have k23:=HS3.out.cell 2;have f03:=HS3.out.free 0;have f23:=HS3.out.free 2;have HK:Hid (TgS w b w.heap.size w1.heap.size t 1 L (.slice A L.length c) y (w3.setCell ⟨w1.heap.size,0,none⟩ (.int .u8 1))):=hI (HS3.out.kind HBT.out HG12.out (Nat.le_refl _) 1);have kk2:=HK.out.cell 2;clear hw3)
        | (go_at_call 203;(with_reducible refine (HTW.out (w3.setCell ⟨w1.heap.size,0,none⟩ (.int .u8 1)) 1 y HK.out false HFR.out).mono ?_);rintro e4 w4 ⟨rfl,hb4⟩;have HK4:Hid (TgS w b w.heap.size w1.heap.size t 1 L (.slice A L.length c) y w4):=hI (HK.out.below hb4);have k24:=HK4.out.cell 2;clear hb4)
        | fail)
       (try simp only [Exit.inBlock,Exit.then,Exit.noGoto])
       exact ⟨rfl,.inl ⟨4,HERR.out,rfl,_,HK4.out.went_all⟩⟩
     · have g16:decide ((16:Int)<(L.length:Int))=false:=decide_eq_false (by omega)
       have HOK:Hid (zBn u1.data.toList=.ok (false,L.map zB1,y.data.toList)):=hI (by rw [zBP HOUT.out,hfr,if_pos rfl,if_neg (by rw [List.length_map];exact h16)]);clear hfr h16
       go_wp2_with (first
        | (go_at_call 200;(with_reducible refine (HB.out).mono ?_);rintro e2 w2 ⟨rfl,hw2⟩;have HS2:Hid (TgS w b w.heap.size w1.heap.size t 0 L (.slice A L.length c) u2 w2):=hI (HST0.out.went HBT.out HG12.out hw2);clear hw2)
        | (go_at_call 172;(with_reducible refine (HT1.out w2 HS2.out.rd).mono ?_);rintro e3 w3 ⟨rfl,hw3⟩;have HS3:Hid (TgS w b w.heap.size w1.heap.size t 0 L (.slice A L.length c) y w3):=hI (HS2.out.went HBT.out HG12.out hw3);have k03:=HS3.out.cell 0;have k23:=HS3.out.cell 2;have f03:=HS3.out.free 0;have f23:=HS3.out.free 2;have HK:Hid (TgS w b w.heap.size w1.heap.size t 1 L (.slice A L.length c) y (w3.setCell ⟨w1.heap.size,0,none⟩ (.int .u8 1))):=hI (HS3.out.kind HBT.out HG12.out (Nat.le_refl _) 1);have kk2:=HK.out.cell 2;clear hw3)
        | (go_at_call 203;(with_reducible refine (HTW.out (w3.setCell ⟨w1.heap.size,0,none⟩ (.int .u8 1)) 1 y HK.out false HFR.out).mono ?_);rintro e4 w4 ⟨rfl,hb4⟩;have HK4:Hid (TgS w b w.heap.size w1.heap.size t 1 L (.slice A L.length c) y w4):=hI (HK.out.below hb4);have k24:=HK4.out.cell 2;clear hb4)
        | (refine wpList_load_row rfl _ _ rfl w1.heap.size rfl 131 #[.int .u8 1,.string t,.slice A L.length c,.string ⟨#[]⟩] (0,0) _ HK4.out.c3 underlying131 rfl zAo ?_)
        | (refine wpList_store_row rfl _ _ _ rfl w.heap.size #[.int .u8 1,.string t,.slice A L.length c,.string ⟨#[]⟩] rfl rfl 131 zTk HK4.out.c2 zAo rfl (zCs _ _ _ _) ?_)
        | fail)
       (try simp only [Exit.inBlock,Exit.then,Exit.noGoto])
       exact bodyPost_ret (v:=.agg #[.int .u8 1,.string t,.slice A L.length c,.string ⟨#[]⟩]) (results_cell_row rfl _ _ _ _ _ _ _ rfl (setRow_heap _ _ _ #[.int .u8 1,.string t,.slice A L.length c,.string ⟨#[]⟩] _ _ HK4.out.c2) underlying131 rfl zAo) rfl
        (.inr ⟨false,1,L.map zB1,y,A,L.length,c,HOK.out,rfl,List.length_map _,rfl,HK4.out.went_all.setRow _ _ (Nat.le_refl _) HBT.out,zLd (B:=w.heap.size) (g:=w1.heap.size) (R:=w.heap.size) HK4.out.own HG12.out (Nat.le_refl _) 1 (by decide) t⟩)
  by_cases h47:∃y',u2.data.toList=47::62::y'
  · obtain ⟨y',h2⟩:=h47
    obtain ⟨y,hy⟩:=mk_l y';have hu3:u2.data.toList=47::62::y.data.toList:=by rw [h2,hy]
    have HOUT:Hid (tagH u1.data.toList=some (true,L.map zB1,y.data.toList)):=hI (by
     have:=hmid;unfold zCM at this;rw [this,zMH (by rw [←hu2];exact hu3)]
     simp)
    have HT1:Hid (∀W,Rd b u2 W->Calls prog 172 #[.pointer (some ⟨b,0,none⟩),.string ⟨#[62]⟩] W λe w'=>e=.returned (.bool false)/\Went b u2 W w'):=hI λW hW=>zBi b u2 ⟨#[62]⟩ W hW (pre1 (by rw [hu3];intro r e;cases e))
    have HT2:Hid (∀W,Rd b u2 W->Calls prog 172 #[.pointer (some ⟨b,0,none⟩),.string ⟨#[47,62]⟩] W λe w'=>e=.returned (.bool true)/\Went b y W w'):=hI λW hW=>zBv b u2 y ⟨#[47,62]⟩ W hW (by rw [hu3];rfl)
    clear h2 hy hu3 hu2 hle2 hp2 hq hst hmid hpu hG hbt hnm hlen hg
    cases hfr:zBg [] (L.map zB1) with
    | false =>
     have HFR:Hid ((!zBg [] (L.map zB1))=true):=hI (by rw [hfr];rfl);have HERR:Hid (zBn u1.data.toList=.error 80):=hI (by rw [zBP HOUT.out,hfr,if_neg (by decide)]);clear hfr
     go_wp2_with (first
      | (go_at_call 200;(with_reducible refine (HB.out).mono ?_);rintro e2 w2 ⟨rfl,hw2⟩;have HS2:Hid (TgS w b w.heap.size w1.heap.size t 0 L (.slice A L.length c) u2 w2):=hI (HST0.out.went HBT.out HG12.out hw2);clear hw2)
      | (go_at_call 172;(with_reducible refine (HT1.out w2 HS2.out.rd).mono ?_);rintro e0 w0 ⟨rfl,hw0⟩;have HS0:Hid (TgS w b w.heap.size w1.heap.size t 0 L (.slice A L.length c) u2 w0):=hI (HS2.out.went HBT.out HG12.out hw0);clear hw0)
      | (go_at_call 172;(with_reducible refine (HT2.out w0 HS0.out.rd).mono ?_);rintro e3 w3 ⟨rfl,hw3⟩;have HS3:Hid (TgS w b w.heap.size w1.heap.size t 0 L (.slice A L.length c) y w3):=hI (HS0.out.went HBT.out HG12.out hw3);have k03:=HS3.out.cell 0;have k23:=HS3.out.cell 2;have f03:=HS3.out.free 0;have f23:=HS3.out.free 2;have HK:Hid (TgS w b w.heap.size w1.heap.size t 3 L (.slice A L.length c) y (w3.setCell ⟨w1.heap.size,0,none⟩ (.int .u8 3))):=hI (HS3.out.kind HBT.out HG12.out (Nat.le_refl _) 3);have kk2:=HK.out.cell 2;clear hw3)
      | (go_at_call 203;(with_reducible refine (HTW.out (w3.setCell ⟨w1.heap.size,0,none⟩ (.int .u8 3)) 3 y HK.out true HFR.out).mono ?_);rintro e4 w4 ⟨rfl,hb4⟩;have HK4:Hid (TgS w b w.heap.size w1.heap.size t 3 L (.slice A L.length c) y w4):=hI (HK.out.below hb4);have k24:=HK4.out.cell 2;clear hb4)
      | fail)
     (try simp only [Exit.inBlock,Exit.then,Exit.noGoto])
     exact ⟨rfl,.inl ⟨80,HERR.out,rfl,_,HK4.out.went_all⟩⟩
    | true =>
     have HFR:Hid ((!zBg [] (L.map zB1))=false):=hI (by rw [hfr];rfl)
     by_cases h16:16<L.length
     · have g16:decide ((16:Int)<(L.length:Int))=true:=decide_eq_true (by omega)
       have HERR:Hid (zBn u1.data.toList=.error 4):=hI (by rw [zBP HOUT.out,hfr,if_pos rfl,if_pos (by rw [List.length_map];exact h16)]);clear hfr h16
       go_wp2_with (first
        | (go_at_call 200;(with_reducible refine (HB.out).mono ?_);rintro e2 w2 ⟨rfl,hw2⟩;have HS2:Hid (TgS w b w.heap.size w1.heap.size t 0 L (.slice A L.length c) u2 w2):=hI (HST0.out.went HBT.out HG12.out hw2);clear hw2)
        | (go_at_call 172;(with_reducible refine (HT1.out w2 HS2.out.rd).mono ?_);rintro e0 w0 ⟨rfl,hw0⟩;have HS0:Hid (TgS w b w.heap.size w1.heap.size t 0 L (.slice A L.length c) u2 w0):=hI (HS2.out.went HBT.out HG12.out hw0);clear hw0)
        | (go_at_call 172;(with_reducible refine (HT2.out w0 HS0.out.rd).mono ?_);rintro e3 w3 ⟨rfl,hw3⟩;have HS3:Hid (TgS w b w.heap.size w1.heap.size t 0 L (.slice A L.length c) y w3):=hI (HS0.out.went HBT.out HG12.out hw3);have k03:=HS3.out.cell 0;have k23:=HS3.out.cell 2;have f03:=HS3.out.free 0;have f23:=HS3.out.free 2;have HK:Hid (TgS w b w.heap.size w1.heap.size t 3 L (.slice A L.length c) y (w3.setCell ⟨w1.heap.size,0,none⟩ (.int .u8 3))):=hI (HS3.out.kind HBT.out HG12.out (Nat.le_refl _) 3);have kk2:=HK.out.cell 2;clear hw3)
        | (go_at_call 203;(with_reducible refine (HTW.out (w3.setCell ⟨w1.heap.size,0,none⟩ (.int .u8 3)) 3 y HK.out false HFR.out).mono ?_);rintro e4 w4 ⟨rfl,hb4⟩;have HK4:Hid (TgS w b w.heap.size w1.heap.size t 3 L (.slice A L.length c) y w4):=hI (HK.out.below hb4);have k24:=HK4.out.cell 2;clear hb4)
        | fail)
       (try simp only [Exit.inBlock,Exit.then,Exit.noGoto])
       exact ⟨rfl,.inl ⟨4,HERR.out,rfl,_,HK4.out.went_all⟩⟩
     · have g16:decide ((16:Int)<(L.length:Int))=false:=decide_eq_false (by omega)
       have HOK:Hid (zBn u1.data.toList=.ok (true,L.map zB1,y.data.toList)):=hI (by rw [zBP HOUT.out,hfr,if_pos rfl,if_neg (by rw [List.length_map];exact h16)]);clear hfr h16
       go_wp2_with (first
        | (go_at_call 200;(with_reducible refine (HB.out).mono ?_);rintro e2 w2 ⟨rfl,hw2⟩;have HS2:Hid (TgS w b w.heap.size w1.heap.size t 0 L (.slice A L.length c) u2 w2):=hI (HST0.out.went HBT.out HG12.out hw2);clear hw2)
        | (go_at_call 172;(with_reducible refine (HT1.out w2 HS2.out.rd).mono ?_);rintro e0 w0 ⟨rfl,hw0⟩;have HS0:Hid (TgS w b w.heap.size w1.heap.size t 0 L (.slice A L.length c) u2 w0):=hI (HS2.out.went HBT.out HG12.out hw0);clear hw0)
        | (go_at_call 172;(with_reducible refine (HT2.out w0 HS0.out.rd).mono ?_);rintro e3 w3 ⟨rfl,hw3⟩;have HS3:Hid (TgS w b w.heap.size w1.heap.size t 0 L (.slice A L.length c) y w3):=hI (HS0.out.went HBT.out HG12.out hw3);have k03:=HS3.out.cell 0;have k23:=HS3.out.cell 2;have f03:=HS3.out.free 0;have f23:=HS3.out.free 2;have HK:Hid (TgS w b w.heap.size w1.heap.size t 3 L (.slice A L.length c) y (w3.setCell ⟨w1.heap.size,0,none⟩ (.int .u8 3))):=hI (HS3.out.kind HBT.out HG12.out (Nat.le_refl _) 3);have kk2:=HK.out.cell 2;clear hw3)
        | (go_at_call 203;(with_reducible refine (HTW.out (w3.setCell ⟨w1.heap.size,0,none⟩ (.int .u8 3)) 3 y HK.out false HFR.out).mono ?_);rintro e4 w4 ⟨rfl,hb4⟩;have HK4:Hid (TgS w b w.heap.size w1.heap.size t 3 L (.slice A L.length c) y w4):=hI (HK.out.below hb4);have k24:=HK4.out.cell 2;clear hb4)
        | (refine wpList_load_row rfl _ _ rfl w1.heap.size rfl 131 #[.int .u8 3,.string t,.slice A L.length c,.string ⟨#[]⟩] (0,0) _ HK4.out.c3 underlying131 rfl zAo ?_)
        | (refine wpList_store_row rfl _ _ _ rfl w.heap.size #[.int .u8 3,.string t,.slice A L.length c,.string ⟨#[]⟩] rfl rfl 131 zTk HK4.out.c2 zAo rfl (zCs _ _ _ _) ?_)
        | fail)
       (try simp only [Exit.inBlock,Exit.then,Exit.noGoto])
       exact bodyPost_ret (v:=.agg #[.int .u8 3,.string t,.slice A L.length c,.string ⟨#[]⟩]) (results_cell_row rfl _ _ _ _ _ _ _ rfl (setRow_heap _ _ _ #[.int .u8 3,.string t,.slice A L.length c,.string ⟨#[]⟩] _ _ HK4.out.c2) underlying131 rfl zAo) rfl
        (.inr ⟨true,3,L.map zB1,y,A,L.length,c,HOK.out,rfl,List.length_map _,rfl,HK4.out.went_all.setRow _ _ (Nat.le_refl _) HBT.out,zLd (B:=w.heap.size) (g:=w1.heap.size) (R:=w.heap.size) HK4.out.own HG12.out (Nat.le_refl _) 3 (by decide) t⟩)
  have hno:zKH (u.data.toList.dropWhile blk):=by
   rw [←hu2];refine ⟨λe=>?_,λe=>?_⟩
   · cases hc:u2.data.toList with
     | nil=>rw [hc] at e;cases e
     | cons d r=>rw [hc] at e;injection e with e;exact h62 ⟨r,by rw [hc,e]⟩
   · match hc:u2.data.toList,e with
     | [],e=>cases e
     | [d],e=>simp at e
     | d::d2::r,e=>simp at e;exact h47 ⟨r,by rw [hc,e.1,e.2]⟩
  have HT1:Hid (∀W,Rd b u2 W->Calls prog 172 #[.pointer (some ⟨b,0,none⟩),.string ⟨#[62]⟩] W λe w'=>e=.returned (.bool false)/\Went b u2 W w'):=hI λW hW=>zBi b u2 ⟨#[62]⟩ W hW (pre1 λr e=>h62 ⟨r,e⟩)
  have HT2:Hid (∀W,Rd b u2 W->Calls prog 172 #[.pointer (some ⟨b,0,none⟩),.string ⟨#[47,62]⟩] W λe w'=>e=.returned (.bool false)/\Went b u2 W w'):=hI λW hW=>zBi b u2 ⟨#[47,62]⟩ W hW (by
   rintro ⟨r,e⟩;exact h47 ⟨r,e.symm⟩)
  cases q with
  | false =>
   have HERR:Hid (zBn u1.data.toList=.error 80):=hI (zDM (by
    have:=hmid;unfold zCM at this;rw [this,zHP hno (.inl (by rw [←hu2,ba_l,ba_l];have:=of_decide_eq_false hq;omega))]
    rfl))
   clear hu2 hle2 hp2 hq hst hmid hpu hG hbt hnm hlen hg h62 h47 hno
   go_wp2_with (first
    | (go_at_call 200;(with_reducible refine (HB.out).mono ?_);rintro e2 w2 ⟨rfl,hw2⟩;have HS2:Hid (TgS w b w.heap.size w1.heap.size t 0 L (.slice A L.length c) u2 w2):=hI (HST0.out.went HBT.out HG12.out hw2);clear hw2)
    | (go_at_call 172;(with_reducible refine (HT1.out w2 HS2.out.rd).mono ?_);rintro e0 w0 ⟨rfl,hw0⟩;have HS0:Hid (TgS w b w.heap.size w1.heap.size t 0 L (.slice A L.length c) u2 w0):=hI (HS2.out.went HBT.out HG12.out hw0);clear hw0)
    | (go_at_call 172;(with_reducible refine (HT2.out w0 HS0.out.rd).mono ?_);rintro e4 w4 ⟨rfl,hw4⟩;have HS4:Hid (TgS w b w.heap.size w1.heap.size t 0 L (.slice A L.length c) u2 w4):=hI (HS0.out.went HBT.out HG12.out hw4);clear hw4)
    | fail)
   (try simp only [Exit.inBlock,Exit.then,Exit.noGoto])
   exact ⟨rfl,.inl ⟨80,HERR.out,rfl,_,HS4.out.went_all⟩⟩
  | true =>
   have hne:(u.data.toList.dropWhile blk).length≠u.data.toList.length:=by rw [←hu2,ba_l,ba_l];have:=of_decide_eq_true hq;omega
   cases ha:zB2 u2.data.toList with
   | none =>
    have HERR:Hid (zBn u1.data.toList=.error 80):=hI (zDM (by
     have:=hmid;unfold zCM at this;rw [this,zHP hno (.inr (by rw [←hu2];exact ha))]
     rfl))
    have HAT:Hid (∀W,At9 b u2 W->Calls prog 202 #[.pointer (some ⟨b,0,none⟩)] W λe w'=>e=zAR 80/\∃u,Went b u W w'):=hI λW hW=>zMS b u2 W hW ha
    have HAA:Hid (∀W z,TgS w b w.heap.size w1.heap.size t z L (.slice A L.length c) u2 W->At9 b u2 W.drew):=hI λW z hW=>At9.below ⟨hW.rd,HEV.out u2 W hW.gr hW.rd,by omega,hp2⟩ (Below.refl _ _).drew
    unfold zAR at HAT;clear hu2 hle2 hp2 hq hst hmid hpu hG hbt hnm hlen hg h62 h47 hno hne ha
    go_wp2_with (first
     | (go_at_call 200;(with_reducible refine (HB.out).mono ?_);rintro e2 w2 ⟨rfl,hw2⟩;have HS2:Hid (TgS w b w.heap.size w1.heap.size t 0 L (.slice A L.length c) u2 w2):=hI (HST0.out.went HBT.out HG12.out hw2);clear hw2)
     | (go_at_call 172;(with_reducible refine (HT1.out w2 HS2.out.rd).mono ?_);rintro e0 w0 ⟨rfl,hw0⟩;have HS0:Hid (TgS w b w.heap.size w1.heap.size t 0 L (.slice A L.length c) u2 w0):=hI (HS2.out.went HBT.out HG12.out hw0);clear hw0)
     | (go_at_call 172;(with_reducible refine (HT2.out w0 HS0.out.rd).mono ?_);rintro e4 w4 ⟨rfl,hw4⟩;have HS4:Hid (TgS w b w.heap.size w1.heap.size t 0 L (.slice A L.length c) u2 w4):=hI (HS0.out.went HBT.out HG12.out hw4);clear hw4)
     | fail)
    refine zAN (λw'=>w'.cell? ⟨w1.heap.size,2,none⟩=some (.slice A L.length c)) 7 (by kernel_rfl) ?_;have hS:w4.drew.cell? ⟨w1.heap.size,2,none⟩=some (.slice A L.length c):=HS4.out.cell 2;refine tkZ (i:=0) (v:=.pointer (some ⟨w1.heap.size,2,none⟩)) rfl (Or.inl ⟨by rfl,?_⟩) hS ?_
    · intro w' hSw;(try dsimp only at hSw);go_simp
    try simp only [Act.put,sTA,sTB,sTC]
    refine tkZ (i:=1) (v:=.slice A L.length c) rfl (Or.inl ⟨by rfl,?_⟩) hS ?_
    · intro w' hSw;(try dsimp only at hSw);go_simp
    try simp only [Act.put,sTA,sTB,sTC]
    refine tkZ (i:=2) (v:=.pointer (some ⟨b,0,none⟩)) rfl (Or.inl ⟨by rfl,?_⟩) hS ?_
    · intro w' hSw;(try dsimp only at hSw);go_simp
    try simp only [Act.put,sTA,sTB,sTC]
    refine zAS (i:=3) (by kernel_rfl) rfl (λK hK=>?_)
    go_simp
    go_at_call 202;(with_reducible refine (HAT.out _ (HAA.out _ _ HS4.out)).mono ?_);rintro e5 w5 ⟨rfl,u5,hw5⟩
    (try simp only [Exit.inBlock,Exit.then,Exit.noGoto])
    exact ⟨rfl,.inl ⟨80,HERR.out,rfl,_,HS4.out.went_all.trans (Went.after (Below.refl _ _).drew hw5)⟩⟩
   | some p =>
    obtain ⟨⟨pn,pv⟩,y'⟩:=p;obtain ⟨nm,hnm2⟩:=mk_l pn;obtain ⟨vl,hvl⟩:=mk_l pv;obtain ⟨y,hy⟩:=mk_l y';subst hnm2 hvl hy;have hal:=zB0 ha;dsimp only at hal;rw [ba_l,ba_l,ba_l] at hal;have HPY:Hid (isP y.data.toList=true):=hI (zFq ha hp2 (by rw [ba_l];omega)).2.2.1
    have HNX:Hid (zCM u1.data.toList y.data.toList ((L++[(nm,vl)]).map zB1)):=hI (by
     rw [List.map_append];exact hmid.next (zLv hno hne (by rw [←hu2];exact ha)))
    have HYS:Hid (y.size<=gk - 1/\(L.length+1)+y.size<=16384/\nm.size<=16384/\0<gk):=hI ⟨by omega,by omega,by omega,by omega⟩;have HLB:Hid (L.length<=16384):=hI (by omega);have HAT:Hid (∀W,At9 b u2 W->Calls prog 202 #[.pointer (some ⟨b,0,none⟩)] W λe w'=>e=.returned (.agg #[.string nm,.string vl])/\Went b y W w'):=hI λW hW=>zNA b u2 nm vl y W hW ha
    have HAA:Hid (∀W z,TgS w b w.heap.size w1.heap.size t z L (.slice A L.length c) u2 W->At9 b u2 W.drew):=hI λW z hW=>At9.below ⟨hW.rd,HEV.out u2 W hW.gr hW.rd,by omega,hp2⟩ (Below.refl _ _).drew
    clear hu2 hle2 hp2 hq hst hmid hpu hG hbt hnm hlen hg h62 h47 hno hne ha hal
    go_wp2_with (first
     | (go_at_call 200;(with_reducible refine (HB.out).mono ?_);rintro e2 w2 ⟨rfl,hw2⟩;have HS2:Hid (TgS w b w.heap.size w1.heap.size t 0 L (.slice A L.length c) u2 w2):=hI (HST0.out.went HBT.out HG12.out hw2);clear hw2)
     | (go_at_call 172;(with_reducible refine (HT1.out w2 HS2.out.rd).mono ?_);rintro e0 w0 ⟨rfl,hw0⟩;have HS0:Hid (TgS w b w.heap.size w1.heap.size t 0 L (.slice A L.length c) u2 w0):=hI (HS2.out.went HBT.out HG12.out hw0);clear hw0)
     | (go_at_call 172;(with_reducible refine (HT2.out w0 HS0.out.rd).mono ?_);rintro e4 w4 ⟨rfl,hw4⟩;have HS4:Hid (TgS w b w.heap.size w1.heap.size t 0 L (.slice A L.length c) u2 w4):=hI (HS0.out.went HBT.out HG12.out hw4);clear hw4)
     | fail)
    refine wp_region_noPanic ?_;refine zAN (λw'=>w'.cell? ⟨w1.heap.size,2,none⟩=some (.slice A L.length c)) 7 (by kernel_rfl) ?_;have hS:w4.drew.cell? ⟨w1.heap.size,2,none⟩=some (.slice A L.length c):=HS4.out.cell 2;refine tkZ (i:=0) (v:=.pointer (some ⟨w1.heap.size,2,none⟩)) rfl (Or.inl ⟨by rfl,?_⟩) hS ?_
    · intro w' hSw;(try dsimp only at hSw);go_simp
    try simp only [Act.put,sTA,sTB,sTC]
    refine tkZ (i:=1) (v:=.slice A L.length c) rfl (Or.inl ⟨by rfl,?_⟩) hS ?_
    · intro w' hSw;(try dsimp only at hSw);go_simp
    try simp only [Act.put,sTA,sTB,sTC]
    refine tkZ (i:=2) (v:=.pointer (some ⟨b,0,none⟩)) rfl (Or.inl ⟨by rfl,?_⟩) hS ?_
    · intro w' hSw;(try dsimp only at hSw);go_simp
    try simp only [Act.put,sTA,sTB,sTC]
    refine zAS (i:=3) (by kernel_rfl) rfl (λK hK=>?_)
    go_simp
    go_at_call 202;(with_reducible refine (HAT.out _ (HAA.out _ _ HS4.out)).mono ?_);rintro e5 w5 ⟨rfl,hw5⟩
    have HS5:Hid (TgS w b w.heap.size w1.heap.size t 0 L (.slice A L.length c) y w5):=hI ((HS4.out.below (Below.refl _ _).drew).went HBT.out HG12.out hw5);have c5:w5.cell? ⟨w1.heap.size,2,none⟩=some (.slice A L.length c):=HS5.out.cell 2
    go_wp2_with fail
    refine hK.out _ _ (λ_=>c5) (λ_=>?_);clear hK K hw5
    try simp only [Act.put,sTA,sTB,sTC]
    refine zAS (i:=4) (by kernel_rfl) rfl (λK hK=>?_)
    go_simp
    have cW:(w5.alloc (.cells #[.string nm,.string vl] 187)).cell? ⟨w1.heap.size,2,none⟩=some (.slice A L.length c):=(HS5.out.below (stpA (Below.refl _ _) _)).cell 2;refine hK.out _ _ (λ_=>cW) (λ_=>?_);clear hK K
    try simp only [Act.put,sTA,sTB,sTC]
    refine zAS (i:=5) (by kernel_rfl) rfl (λK hK=>?_);refine step_append_lies _ rfl (.tmp 27) (.tmp 30) 129 rfl (w1.heap.size+1) 187 i0 (.agg #[.string ⟨#[]⟩,.string ⟨#[]⟩]) 2 32 underlying129 HI.out HZ0.out HZ1.out HZ2.out rfl (by decide) _ L.length _ rfl (zAF HS5.out.own (stpA (Below.refl _ _) _) (Nat.le_refl _)) ⟨w5.heap.size,0,none⟩ 1 1 [.string nm,.string vl] rfl rfl (zAp w5 [.string nm,.string vl] 187 _ rfl) (by simp [Value.oneCell']) (by decide) (by have:=HLB.out;unfold maxLen;omega) (by have:=HLB.out;omega) (by have:=(Array.getElem?_eq_some_iff.1 HS5.out.c3).1;simp;omega) _ rfl ?_;intro g6 c6 w6 hown6 hgr6 hor hlt6;have HP6:=hI (HS5.out.push HBT.out HG12.out (Nat.le_refl _) hown6 hgr6)
    have h6:w6.heap[w1.heap.size]?=some (.cells #[.int .u8 0,.string t,.slice A L.length c,.string ⟨#[]⟩] 131 (0,0)):=by
     have h1:=zAB HS5.out.c3 (stpA (Below.refl w5.heap.size w5) (.cells #[.string nm,.string vl] 187));exact (hgr6.block _ (Array.getElem?_eq_some_iff.1 h1).1 (λe=>by have:=(HS5.out.own.lt _ e.symm).1;omega)).trans h1
    have k6:w6.cell? ⟨w1.heap.size,2,none⟩=some (.slice A L.length c):=zAA w6 _ 2 _ _ _ h6;have f6:w6.frozen? ⟨w1.heap.size,2,none⟩=false:=zAZ w6 _ 2 _ _ h6;clear hown6 hgr6 hor h6;refine hK.out _ _ (λ_=>k6) (λ_=>?_);clear hK K
    try simp only [Act.put,sTA,sTB,sTC]
    refine tkZ (i:=6) (v:=.pointer (some ⟨w1.heap.size,2,none⟩)) rfl (Or.inl ⟨by rfl,?_⟩) k6 ?_
    · intro w' hSw;(try dsimp only at hSw);go_simp
    try simp only [Act.put,sTA,sTB,sTC]
    refine zAS (i:=7) (by kernel_rfl) rfl (λK hK=>?_)
    go_simp
    refine hK.out _ _ (λh=>absurd rfl h) (λ_=>?_);clear hK K
    try simp only [Act.put,sTA,sTB,sTC]
    refine zCU (by kernel_rfl) ?_ _;refine NoPanic.normal ?_
    go_wp2_with fail
    go_roundg (gk - 1)
    case rel=>exact ⟨L++[(nm,vl)],_,y,HYS.out.1,by simpa using HP6.out,HNX.out,by have:=HYS.out.2.1;rw [List.length_append];simpa using this,HPY.out,by
     intro p hp;rcases List.mem_append.1 hp with hp | hp
     · exact HNM.out p hp
     · rw [List.mem_singleton] at hp
       subst hp;show nm.data.toList.length<=16384;rw [ba_l];exact HYS.out.2.2.1⟩
    case measure=>have:=HYS.out.2.2.2;omega
theorem zOp (b:Nat) (s:ByteArray) (w:World) (h:At9 b s w) (hf:zAP (s.data.toList.takeWhile wch)=false) :
 Calls prog 174 #[.pointer (some ⟨b,0,none⟩)] w λe w'=>e=zAR 80/\∃u,Went b u w w':=by
 have hsz:=h.sz;have HF:Hid (∀o,Calls prog 199 #[.pointer (some ⟨b,0,none⟩)] (w.alloc o) λe w'=>e=zAR 80/\∃u,Went b u (w.alloc o) w'):=hI λo=>zJN b s (w.alloc o) (h.alloc o).rd (by omega) hf
 unfold zAR at HF ⊢;clear h hf hsz
 go_enter func174,ntmps174
 go_wp2_with fail
 go_step3
 go_wp2_with (first
  | (go_at_call 199;(with_reducible refine (HF.out _).mono ?_);rintro e1 w1 ⟨rfl,u1,hw1⟩)
  | fail)
 (try simp only [Exit.inBlock,Exit.then,Exit.noGoto])
 exact ⟨rfl,rfl,_,Went.after (stpA (Below.refl _ _) _) hw1⟩
theorem zP3 (b:Nat) (s:ByteArray) (er:Int) (w:World) (h:At9 b s w) (hf:(zAP (s.data.toList.takeWhile wch)=false/\er=80)∨(zAP (s.data.toList.takeWhile wch)=true/\zBn (s.data.toList.dropWhile wch)=.error er)) :
 Calls prog 174 #[.pointer (some ⟨b,0,none⟩)] w λe w'=>e=zAR er/\∃u,Went b u w w':=by
 rcases hf with ⟨hf,rfl⟩ | ⟨hf,ho⟩
 · exact zOp b s w h hf
 · obtain ⟨t,ht⟩:=mk_l (s.data.toList.takeWhile wch)
   obtain ⟨u1,hu1⟩:=mk_l (s.data.toList.dropWhile wch);rw [←hu1] at ho;refine (zHW b s t u1 w h ht hu1 hf).mono λe w' hp=>?_
   rcases hp with ⟨er',h1,h2,h3⟩ | ⟨q,k,m,y,A,n,c,h1,_⟩
   · rw [ho] at h1
     injection h1 with h1;subst h1;exact ⟨h2,h3⟩
   · rw [ho] at h1;cases h1
theorem zRT (b:Nat) (s t y:ByteArray) (q:Bool) (k:Nat) (m:List Pr) (w:World) (h:At9 b s w) (hf:zAP (s.data.toList.takeWhile wch)=true) (ht:t.data.toList=s.data.toList.takeWhile wch) (ho:zBn (s.data.toList.dropWhile wch)=.ok (q,m,y.data.toList)) (hk:k=if q then 3 else 1) :
 Calls prog 174 #[.pointer (some ⟨b,0,none⟩)] w λe w'=>∃(A:Option Addr) (n c:Nat),m.length=n/\e=.returned (.agg #[.int .u8 (k:Int),.string t,.slice A n c,.string ⟨#[]⟩])/\Went b y w w'∧TkR w.heap.size w' #[.int .u8 (k:Int),.string t,.slice A n c,.string ⟨#[]⟩] ⟨k,t.data.toList,m,[]⟩:=by
 obtain ⟨u1,hu1⟩:=mk_l (s.data.toList.dropWhile wch);rw [←hu1] at ho;refine (zHW b s t u1 w h ht hu1 hf).mono λe w' hp=>?_
 rcases hp with ⟨er',h1,h2,h3⟩ | ⟨q',k',m',y',A,n,c,h1,h2,h3,h4,h5,h6⟩
 · rw [ho] at h1;cases h1
 · rw [ho] at h1
   injection h1 with h1;obtain ⟨rfl,h7⟩:=(Prod.mk.injEq _ _ _ _).mp h1;obtain ⟨rfl,h8⟩:=(Prod.mk.injEq _ _ _ _).mp h7;obtain rfl:=ba_x h8;subst h2 hk;exact ⟨A,n,c,h3,h4,h5,h6⟩
theorem TkR.setRow {B g:Nat} {w:World} {cs cs':Array Value} {t:Tk} (h:TkR B w cs t) (hg:g<B):TkR B (w.setRow g cs') cs t:=by
 obtain ⟨⟨s,A,c,u,e1,e2,e3,e4,e5,e6,e7,hr⟩,h2⟩:=h;refine ⟨⟨s,A,c,u,e1,e2,e3,e4,e5,e6,e7,λhp=>?_⟩,h2⟩;obtain ⟨b0,off,rfl,hb,hc⟩:=hr hp
 have hcs:cs[2]?=some (.slice (some ⟨b0,off,none⟩) t.attrs.length c):=by
  rw [←Array.getElem?_toList,e1]
  rfl
 have hB:=h2 _ _ _ hcs _ rfl;dsimp only at hB;refine ⟨b0,off,rfl,by simpa [World.setRow] using hb,λj hj=>?_⟩;obtain ⟨cs2,k1,k2⟩:=hc j hj;refine ⟨cs2,k1,λi hi=>?_⟩;rw [World.cell?_of_block (w:=w) (setRow_other w g b0 cs' (by omega))];exact k2 i hi
theorem TkR.mono {B B':Nat} {w:World} {cs:Array Value} {t:Tk} (h:TkR B w cs t) (hB:B'≤B):TkR B' w cs t:=⟨h.1,λA n c e ad ea=>Nat.le_trans hB (h.2 A n c e ad ea)⟩
def zI6 (l:List UInt8) (er:Int):Prop:=(er=80/\oneL l=none)∨(er=4/\∃t y,oneL l=some (t,y)/\16<t.attrs.length)
theorem zJb (r:List UInt8):oneL (60::47::r)=zDl r:=by
 unfold oneL;dsimp only;rw [if_pos rfl,zQt]
theorem zMa (r:List UInt8) (h:r.head?≠some 47):oneL (60::r)=(if zAP (r.takeWhile wch)=true then (match tagH (r.dropWhile wch) with
 | none=>none
 | some (b,m,x)=>if zBg [] m=true then some (⟨if b then 3 else 1,r.takeWhile wch,m,[]⟩,x) else none) else none):=by
 unfold oneL;dsimp only;rw [if_pos rfl]
 cases hf:zAP (r.takeWhile wch) with
 | false =>
  rw [if_neg (by decide)];exact zQk h ((zC7 r).2 hf)
 | true =>
  obtain ⟨h1,h2,h3⟩:=(zC7 r).1 hf;rw [if_pos rfl,zRI h h2,h3,h1]
  rfl
theorem zJx (c:UInt8) (r:List UInt8) (h:c≠60):oneL (c::r)=(rd ((c::r).takeWhile (ne 60))).map λx=>(⟨4,[],[],x⟩,(c::r).dropWhile (ne 60)):=by
 show (if c=60 then tagL r else _)=_;rw [if_neg h,zRb]
theorem zFP (b:Nat) (s s2 t y:ByteArray) (w:World) (h:At9 b s w) (hs:s.data.toList=60::47::s2.data.toList) (hv:zDl s2.data.toList=some (⟨2,t.data.toList,[],[]⟩,y.data.toList)) :
 Calls prog 143 #[.pointer (some ⟨b,0,none⟩)] w λe w'=>e=.returned (.agg #[.int .u8 2,.string t,.slice none 0 0,.string ⟨#[]⟩])/\Went b y w w':=by
 have HGB:Hid (w.heap.size≠b):=hI (Nat.ne_of_gt h.rd.lt);have HBT:Hid (b<w.heap.size):=h.rd.lt;have HA:Hid (At9 b s (w.alloc (.cells zTk 131))):=hI (h.alloc _);have HT1:Hid (∀o,Calls prog 172 #[.pointer (some ⟨b,0,none⟩),.string ⟨#[60,47]⟩] (w.alloc o) λe w'=>e=.returned (.bool true)/\Went b s2 (w.alloc o) w'):=hI λo=>zBv b s s2 ⟨#[60,47]⟩ (w.alloc o) (h.alloc o).rd (by rw [hs];rfl)
 have HP2:Hid (isP s2.data.toList=true):=hI (by have:=h.tx;rw [hs] at this;exact zIB (zIB this (by decide)) (by decide));have HZ2:Hid (s2.size<=16384):=hI (by have:=h.sz;have h2:=zB6 hs;simp only [List.length_cons,ba_l] at h2;omega);have HSH:Hid (∀W,At9 b s2 W->Calls prog 173 #[.pointer (some ⟨b,0,none⟩)] W λe w'=>e=.returned (.agg #[.int .u8 2,.string t,.slice none 0 0,.string ⟨#[]⟩])/\Went b y W w'):=hI λW hW=>zM7 b s2 t y W hW hv
 clear h hs hv
 go_enter func143,ntmps143
 go_wp2_with (first
  | (go_at_call 172;(with_reducible refine (HT1.out _).mono ?_);rintro e1 w1 ⟨rfl,hw1⟩;have HW1:Hid (Went b s2 (w.alloc (.cells zTk 131)) w1):=hI hw1;clear hw1)
  | (go_at_call 173;(with_reducible refine (HSH.out w1 (HA.out.next HW1.out HP2.out HZ2.out)).mono ?_);rintro e3 w3 ⟨rfl,hw3⟩;have HW3:Hid (Went b y (w.alloc (.cells zTk 131)) w3):=hI (HW1.out.trans hw3);have HG:=hI (HW3.out.heap (heap_alloc_new w (.cells zTk 131)) HGB.out);clear hw3)
  | (refine wpList_store_row rfl _ _ _ rfl w.heap.size #[.int .u8 2,.string t,.slice none 0 0,.string ⟨#[]⟩] rfl rfl 131 zTk HG.out zAo rfl (zCs _ _ _ _) ?_)
  | fail)
 exact bodyPost_ret (v:=.agg #[.int .u8 2,.string t,.slice none 0 0,.string ⟨#[]⟩]) (results_cell_row rfl _ _ _ _ _ _ _ rfl (setRow_heap _ _ _ #[.int .u8 2,.string t,.slice none 0 0,.string ⟨#[]⟩] _ _ HG.out) underlying131 rfl zAo) rfl ⟨rfl,(Went.after (stpA (Below.refl _ _) _) HW3.out).setRow _ _ (Nat.le_refl _) HBT.out⟩
theorem zGA (b:Nat) (s s2:ByteArray) (w:World) (h:At9 b s w) (hs:s.data.toList=60::47::s2.data.toList) (hv:zDl s2.data.toList=none) :
 Calls prog 143 #[.pointer (some ⟨b,0,none⟩)] w λe w'=>e=zAR 80/\∃u,Went b u w w':=by
 have HGB:Hid (w.heap.size≠b):=hI (Nat.ne_of_gt h.rd.lt);have HBT:Hid (b<w.heap.size):=h.rd.lt;have HA:Hid (At9 b s (w.alloc (.cells zTk 131))):=hI (h.alloc _);have HT1:Hid (∀o,Calls prog 172 #[.pointer (some ⟨b,0,none⟩),.string ⟨#[60,47]⟩] (w.alloc o) λe w'=>e=.returned (.bool true)/\Went b s2 (w.alloc o) w'):=hI λo=>zBv b s s2 ⟨#[60,47]⟩ (w.alloc o) (h.alloc o).rd (by rw [hs];rfl)
 have HP2:Hid (isP s2.data.toList=true):=hI (by have:=h.tx;rw [hs] at this;exact zIB (zIB this (by decide)) (by decide));have HZ2:Hid (s2.size<=16384):=hI (by have:=h.sz;have h2:=zB6 hs;simp only [List.length_cons,ba_l] at h2;omega);have HSH:Hid (∀W,At9 b s2 W->Calls prog 173 #[.pointer (some ⟨b,0,none⟩)] W λe w'=>e=zAR 80/\∃u,Went b u W w'):=hI λW hW=>zMr b s2 W hW hv
 unfold zAR at HSH ⊢;clear h hs hv
 go_enter func143,ntmps143
 go_wp2_with (first
  | (go_at_call 172;(with_reducible refine (HT1.out _).mono ?_);rintro e1 w1 ⟨rfl,hw1⟩;have HW1:Hid (Went b s2 (w.alloc (.cells zTk 131)) w1):=hI hw1;clear hw1)
  | (go_at_call 173;(with_reducible refine (HSH.out w1 (HA.out.next HW1.out HP2.out HZ2.out)).mono ?_);rintro e3 w3 ⟨rfl,u3,hw3⟩)
  | fail)
 (try simp only [Exit.inBlock,Exit.then,Exit.noGoto])
 exact ⟨rfl,rfl,_,Went.after (stpA (Below.refl _ _) _) (HW1.out.trans hw3)⟩
theorem zF3 (b:Nat) (s s1 t y:ByteArray) (q:Bool) (k:Nat) (m:List Pr) (w:World) (h:At9 b s w) (hs:s.data.toList=60::s1.data.toList) (h47:s1.data.toList.head?≠some 47) (hf:zAP (s1.data.toList.takeWhile wch)=true) (ht:t.data.toList=s1.data.toList.takeWhile wch) (ho:zBn (s1.data.toList.dropWhile wch)=.ok (q,m,y.data.toList)) (hk:k=if q then 3 else 1) :
 Calls prog 143 #[.pointer (some ⟨b,0,none⟩)] w λe w'=>∃(A:Option Addr) (n c:Nat),m.length=n/\e=.returned (.agg #[.int .u8 (k:Int),.string t,.slice A n c,.string ⟨#[]⟩])/\Went b y w w'∧TkR w.heap.size w' #[.int .u8 (k:Int),.string t,.slice A n c,.string ⟨#[]⟩] ⟨k,t.data.toList,m,[]⟩:=by
 have HGB:Hid (w.heap.size≠b):=hI (Nat.ne_of_gt h.rd.lt);have HBT:Hid (b<w.heap.size):=h.rd.lt;have HA:Hid (At9 b s (w.alloc (.cells zTk 131))):=hI (h.alloc _);have HT1:Hid (∀o,Calls prog 172 #[.pointer (some ⟨b,0,none⟩),.string ⟨#[60,47]⟩] (w.alloc o) λe w'=>e=.returned (.bool false)/\Went b s (w.alloc o) w'):=hI λo=>zBi b s ⟨#[60,47]⟩ (w.alloc o) (h.alloc o).rd (by rw [hs];rintro ⟨r,e⟩;injection e with _ e;exact h47 (by rw [←e];rfl))
 have HT2:Hid (∀W,Rd b s W->Calls prog 172 #[.pointer (some ⟨b,0,none⟩),.string ⟨#[60]⟩] W λe w'=>e=.returned (.bool true)/\Went b s1 W w'):=hI λW hW=>zBv b s s1 ⟨#[60]⟩ W hW (by rw [hs];rfl)
 have HP2:Hid (isP s1.data.toList=true):=hI (by have:=h.tx;rw [hs] at this;exact zIB this (by decide));have HZ2:Hid (s1.size<=16384):=hI (by have h2:=zB6 hs;have:=h.sz;simp only [List.length_cons,ba_l] at h2;omega);have HSH:Hid (∀W,At9 b s1 W->Calls prog 174 #[.pointer (some ⟨b,0,none⟩)] W λe w'=>∃(A:Option Addr) (n c:Nat),m.length=n/\e=.returned (.agg #[.int .u8 (k:Int),.string t,.slice A n c,.string ⟨#[]⟩])/\Went b y W w'∧TkR W.heap.size w' #[.int .u8 (k:Int),.string t,.slice A n c,.string ⟨#[]⟩] ⟨k,t.data.toList,m,[]⟩):=hI λW hW=>zRT b s1 t y q k m W hW hf ht ho hk
 clear h hs h47 hf ht ho hk
 go_enter func143,ntmps143
 go_wp2_with (first
  | (go_at_call 172;(with_reducible refine (HT1.out _).mono ?_);rintro e1 w1 ⟨rfl,hw1⟩;have HW1:Hid (Went b s (w.alloc (.cells zTk 131)) w1):=hI hw1;clear hw1)
  | (go_at_call 172;(with_reducible refine (HT2.out w1 HW1.out.rd).mono ?_);rintro e2 w2 ⟨rfl,hw2⟩;have HW2:Hid (Went b s1 (w.alloc (.cells zTk 131)) w2):=hI (HW1.out.trans hw2);clear hw2)
  | (go_at_call 174;(with_reducible refine (HSH.out w2 (HA.out.next HW2.out HP2.out HZ2.out)).mono ?_);rintro e3 w3 ⟨A,n,c,hn,rfl,hw3,hR⟩;have HN:=hI hn;have HR:Hid (TkR (w.heap.size+1) w3 #[.int .u8 (k:Int),.string t,.slice A n c,.string ⟨#[]⟩] ⟨k,t.data.toList,m,[]⟩):=hI (hR.mono (by have:=HW2.out.gr.size;simp at this;omega));have HW3:Hid (Went b y (w.alloc (.cells zTk 131)) w3):=hI (HW2.out.trans hw3);have HG:=hI (HW3.out.heap (heap_alloc_new w (.cells zTk 131)) HGB.out);clear hw3 hR hn)
  | (refine wpList_store_row rfl _ _ _ rfl w.heap.size #[.int .u8 (k:Int),.string t,.slice A n c,.string ⟨#[]⟩] rfl rfl 131 zTk HG.out zAo rfl (zCs _ _ _ _) ?_)
  | fail)
 exact bodyPost_ret (v:=.agg #[.int .u8 (k:Int),.string t,.slice A n c,.string ⟨#[]⟩]) (results_cell_row rfl _ _ _ _ _ _ _ rfl (setRow_heap _ _ _ #[.int .u8 (k:Int),.string t,.slice A n c,.string ⟨#[]⟩] _ _ HG.out) underlying131 rfl zAo) rfl ⟨_,_,_,HN.out,rfl,(Went.after (stpA (Below.refl _ _) _) HW3.out).setRow _ _ (Nat.le_refl _) HBT.out,(HR.out.setRow (Nat.lt_succ_self _)).mono (Nat.le_succ _)⟩
theorem zHr (b:Nat) (s s1:ByteArray) (er:Int) (w:World) (h:At9 b s w) (hs:s.data.toList=60::s1.data.toList) (h47:s1.data.toList.head?≠some 47) (hf:(zAP (s1.data.toList.takeWhile wch)=false/\er=80)∨(zAP (s1.data.toList.takeWhile wch)=true/\zBn (s1.data.toList.dropWhile wch)=.error er)) :
 Calls prog 143 #[.pointer (some ⟨b,0,none⟩)] w λe w'=>e=zAR er/\∃u,Went b u w w':=by
 have HGB:Hid (w.heap.size≠b):=hI (Nat.ne_of_gt h.rd.lt);have HBT:Hid (b<w.heap.size):=h.rd.lt;have HA:Hid (At9 b s (w.alloc (.cells zTk 131))):=hI (h.alloc _);have HT1:Hid (∀o,Calls prog 172 #[.pointer (some ⟨b,0,none⟩),.string ⟨#[60,47]⟩] (w.alloc o) λe w'=>e=.returned (.bool false)/\Went b s (w.alloc o) w'):=hI λo=>zBi b s ⟨#[60,47]⟩ (w.alloc o) (h.alloc o).rd (by rw [hs];rintro ⟨r,e⟩;injection e with _ e;exact h47 (by rw [←e];rfl))
 have HT2:Hid (∀W,Rd b s W->Calls prog 172 #[.pointer (some ⟨b,0,none⟩),.string ⟨#[60]⟩] W λe w'=>e=.returned (.bool true)/\Went b s1 W w'):=hI λW hW=>zBv b s s1 ⟨#[60]⟩ W hW (by rw [hs];rfl)
 have HP2:Hid (isP s1.data.toList=true):=hI (by have:=h.tx;rw [hs] at this;exact zIB this (by decide));have HZ2:Hid (s1.size<=16384):=hI (by have h2:=zB6 hs;have:=h.sz;simp only [List.length_cons,ba_l] at h2;omega);have HSH:Hid (∀W,At9 b s1 W->Calls prog 174 #[.pointer (some ⟨b,0,none⟩)] W λe w'=>e=zAR er/\∃u,Went b u W w'):=hI λW hW=>zP3 b s1 er W hW hf
 unfold zAR at HSH ⊢;clear h hs h47 hf
 go_enter func143,ntmps143
 go_wp2_with (first
  | (go_at_call 172;(with_reducible refine (HT1.out _).mono ?_);rintro e1 w1 ⟨rfl,hw1⟩;have HW1:Hid (Went b s (w.alloc (.cells zTk 131)) w1):=hI hw1;clear hw1)
  | (go_at_call 172;(with_reducible refine (HT2.out w1 HW1.out.rd).mono ?_);rintro e2 w2 ⟨rfl,hw2⟩;have HW2:Hid (Went b s1 (w.alloc (.cells zTk 131)) w2):=hI (HW1.out.trans hw2);clear hw2)
  | (go_at_call 174;(with_reducible refine (HSH.out w2 (HA.out.next HW2.out HP2.out HZ2.out)).mono ?_);rintro e3 w3 ⟨rfl,u3,hw3⟩)
  | fail)
 (try simp only [Exit.inBlock,Exit.then,Exit.noGoto])
 exact ⟨rfl,rfl,_,Went.after (stpA (Below.refl _ _) _) (HW2.out.trans hw3)⟩
theorem zFM (b:Nat) (s raw y v:ByteArray) (w:World) (h:At9 b s w) (hs:∀r,s.data.toList≠60::r) (hraw:raw.data.toList=s.data.toList.takeWhile (ne 60)) (hy:y.data.toList=s.data.toList.dropWhile (ne 60)) (hv:rd raw.data.toList=some v.data.toList) :
 Calls prog 143 #[.pointer (some ⟨b,0,none⟩)] w λe w'=>e=.returned (.agg #[.int .u8 4,.string ⟨#[]⟩,.slice none 0 0,.string v])/\Went b y w w':=by
 have HGB:Hid (w.heap.size≠b):=hI (Nat.ne_of_gt h.rd.lt);have HBT:Hid (b<w.heap.size):=h.rd.lt;have HA:Hid (At9 b s (w.alloc (.cells zTk 131))):=hI (h.alloc _);have HT1:Hid (∀o,Calls prog 172 #[.pointer (some ⟨b,0,none⟩),.string ⟨#[60,47]⟩] (w.alloc o) λe w'=>e=.returned (.bool false)/\Went b s (w.alloc o) w'):=hI λo=>zBi b s ⟨#[60,47]⟩ (w.alloc o) (h.alloc o).rd (by rintro ⟨r,e⟩;exact hs _ e.symm)
 have HT2:Hid (∀W,Rd b s W->Calls prog 172 #[.pointer (some ⟨b,0,none⟩),.string ⟨#[60]⟩] W λe w'=>e=.returned (.bool false)/\Went b s W w'):=hI λW hW=>zBi b s ⟨#[60]⟩ W hW (pre1 hs)
 have hsz:=h.sz
 have hrs:raw.size<=16384:=by
  have:=congrArg List.length (zAU (ne 60) s.data.toList).1;rw [List.length_append,←hraw,ba_l,ba_l] at this
  omega
 have HU:Hid (∀W,Rd b s W->Calls prog 176 #[.pointer (some ⟨b,0,none⟩),.string ⟨#[60]⟩] W λe w'=>e=.returned (.string raw)/\Went b y W w'):=hI λW hW=>zJa b s raw y W hW (by omega) hraw hy
 have hrp:isP raw.data.toList=true:=by
  rw [hraw];have htx:=h.tx;have e:=(zAU (ne 60) s.data.toList).1
  cases hd:s.data.toList.dropWhile (ne 60) with
  | nil=>rw [hd,List.append_nil] at e;rw [←e];exact htx
  | cons d r =>
   rw [hd] at e;rw [e] at htx;exact (zA2 htx (by rw [zF8 hd];decide)).1
 have HPL:Hid (∀W,Ev9 W->Calls prog 175 #[.string raw] W λe w'=>e=.returned (.string v)/\Below W.heap.size W w'):=hI λW hW=>zEx raw v W hrp hrs hv hW.err
 clear h hs hraw hy hv hsz hrs hrp
 go_enter func143,ntmps143
 go_wp2_with (first
  | (go_at_call 172;(with_reducible refine (HT1.out _).mono ?_);rintro e1 w1 ⟨rfl,hw1⟩;have HW1:Hid (Went b s (w.alloc (.cells zTk 131)) w1):=hI hw1;clear hw1)
  | (go_at_call 172;(with_reducible refine (HT2.out w1 HW1.out.rd).mono ?_);rintro e2 w2 ⟨rfl,hw2⟩;have HW2:Hid (Went b s (w.alloc (.cells zTk 131)) w2):=hI (HW1.out.trans hw2);clear hw2)
  | (go_at_call 176;(with_reducible refine (HU.out w2 HW2.out.rd).mono ?_);rintro e3 w3 ⟨rfl,hw3⟩;have HW3:Hid (Went b y (w.alloc (.cells zTk 131)) w3):=hI (HW2.out.trans hw3);clear hw3)
  | (go_at_call 175;(with_reducible refine (HPL.out w3 (HW3.out.ev HA.out.rd HA.out.ev)).mono ?_);rintro e4 w4 ⟨rfl,hb4⟩;have HW4:Hid (Went b y (w.alloc (.cells zTk 131)) w4):=hI (HW3.out.then hb4);have HG:=hI (HW4.out.heap (heap_alloc_new w (.cells zTk 131)) HGB.out);clear hb4)
  | (refine wpList_store_row rfl _ _ _ rfl w.heap.size #[.int .u8 4,.string ⟨#[]⟩,.slice none 0 0,.string v] rfl rfl 131 zTk HG.out zAo rfl (zCs _ _ _ _) ?_)
  | fail)
 exact bodyPost_ret (v:=.agg #[.int .u8 4,.string ⟨#[]⟩,.slice none 0 0,.string v]) (results_cell_row rfl _ _ _ _ _ _ _ rfl (setRow_heap _ _ _ #[.int .u8 4,.string ⟨#[]⟩,.slice none 0 0,.string v] _ _ HG.out) underlying131 rfl zAo) rfl ⟨rfl,(Went.after (stpA (Below.refl _ _) _) HW4.out).setRow _ _ (Nat.le_refl _) HBT.out⟩
theorem zGh (b:Nat) (s raw y:ByteArray) (w:World) (h:At9 b s w) (hs:∀r,s.data.toList≠60::r) (hraw:raw.data.toList=s.data.toList.takeWhile (ne 60)) (hy:y.data.toList=s.data.toList.dropWhile (ne 60)) (hv:rd raw.data.toList=none) :
 Calls prog 143 #[.pointer (some ⟨b,0,none⟩)] w λe w'=>e=zAR 80/\∃u,Went b u w w':=by
 have HGB:Hid (w.heap.size≠b):=hI (Nat.ne_of_gt h.rd.lt);have HBT:Hid (b<w.heap.size):=h.rd.lt;have HA:Hid (At9 b s (w.alloc (.cells zTk 131))):=hI (h.alloc _);have HT1:Hid (∀o,Calls prog 172 #[.pointer (some ⟨b,0,none⟩),.string ⟨#[60,47]⟩] (w.alloc o) λe w'=>e=.returned (.bool false)/\Went b s (w.alloc o) w'):=hI λo=>zBi b s ⟨#[60,47]⟩ (w.alloc o) (h.alloc o).rd (by rintro ⟨r,e⟩;exact hs _ e.symm)
 have HT2:Hid (∀W,Rd b s W->Calls prog 172 #[.pointer (some ⟨b,0,none⟩),.string ⟨#[60]⟩] W λe w'=>e=.returned (.bool false)/\Went b s W w'):=hI λW hW=>zBi b s ⟨#[60]⟩ W hW (pre1 hs)
 have hsz:=h.sz
 have hrs:raw.size<=16384:=by
  have:=congrArg List.length (zAU (ne 60) s.data.toList).1;rw [List.length_append,←hraw,ba_l,ba_l] at this
  omega
 have HU:Hid (∀W,Rd b s W->Calls prog 176 #[.pointer (some ⟨b,0,none⟩),.string ⟨#[60]⟩] W λe w'=>e=.returned (.string raw)/\Went b y W w'):=hI λW hW=>zJa b s raw y W hW (by omega) hraw hy
 have hrp:isP raw.data.toList=true:=by
  rw [hraw];have htx:=h.tx;have e:=(zAU (ne 60) s.data.toList).1
  cases hd:s.data.toList.dropWhile (ne 60) with
  | nil=>rw [hd,List.append_nil] at e;rw [←e];exact htx
  | cons d r =>
   rw [hd] at e;rw [e] at htx;exact (zA2 htx (by rw [zF8 hd];decide)).1
 have HPL:Hid (∀W,Ev9 W->Calls prog 175 #[.string raw] W λe w'=>e=zAR 80/\Below W.heap.size W w'):=hI λW hW=>zGK raw W hrp hrs hv hW.err
 unfold zAR at HPL ⊢;clear h hs hraw hy hv hsz hrs hrp
 go_enter func143,ntmps143
 go_wp2_with (first
  | (go_at_call 172;(with_reducible refine (HT1.out _).mono ?_);rintro e1 w1 ⟨rfl,hw1⟩;have HW1:Hid (Went b s (w.alloc (.cells zTk 131)) w1):=hI hw1;clear hw1)
  | (go_at_call 172;(with_reducible refine (HT2.out w1 HW1.out.rd).mono ?_);rintro e2 w2 ⟨rfl,hw2⟩;have HW2:Hid (Went b s (w.alloc (.cells zTk 131)) w2):=hI (HW1.out.trans hw2);clear hw2)
  | (go_at_call 176;(with_reducible refine (HU.out w2 HW2.out.rd).mono ?_);rintro e3 w3 ⟨rfl,hw3⟩;have HW3:Hid (Went b y (w.alloc (.cells zTk 131)) w3):=hI (HW2.out.trans hw3);clear hw3)
  | (go_at_call 175;(with_reducible refine (HPL.out w3 (HW3.out.ev HA.out.rd HA.out.ev)).mono ?_);rintro e4 w4 ⟨rfl,hb4⟩)
  | fail)
 (try simp only [Exit.inBlock,Exit.then,Exit.noGoto])
 exact ⟨rfl,rfl,_,Went.after (stpA (Below.refl _ _) _) (HW3.out.then hb4)⟩
theorem zKo (b:Nat) (s y:ByteArray) (t:Tk) (w:World) (h:At9 b s w) (ho:oneL s.data.toList=some (t,y.data.toList)) (h16:t.attrs.length<=16) :
 Calls prog 143 #[.pointer (some ⟨b,0,none⟩)] w λe w'=>∃(x:ByteArray) (A:Option Addr) (n c:Nat) (u:ByteArray),t.attrs.length=n/\e=.returned (.agg #[.int .u8 (t.kind:Int),.string x,.slice A n c,.string u])/\Went b y w w'∧TkR w.heap.size w' #[.int .u8 (t.kind:Int),.string x,.slice A n c,.string u] t:=by
 cases hs:s.data.toList with
 | nil=>rw [hs] at ho;cases ho
 | cons c r =>
  by_cases hc:c=60
  · subst hc
    by_cases h47:r.head?=some 47
    · obtain ⟨r2,rfl⟩:∃r2,r=47::r2:=by
       cases r with
       | nil=>cases h47
       | cons d r2=>injection h47 with h47;exact ⟨r2,by rw [h47]⟩
      rw [hs,zJb] at ho;obtain ⟨s2,hs2⟩:=mk_l r2;rw [←hs2] at ho hs;obtain ⟨_,_,hfn,_,e⟩:=(zDg _ _ _).1 ho;obtain ⟨x,hx⟩:=mk_l t.name;rw [e,←hx] at ho;refine (zFP b s s2 x y w h hs ho).mono λe' w' ⟨k1,k2⟩=>⟨x,none,0,0,⟨#[]⟩,by rw [e];rfl,by rw [k1,e];rfl,k2,?_⟩
      have:=zNU w.heap.size w' 2 (by decide) x;rw [e,←hx];exact this
    · rw [hs,zMa r h47] at ho
      obtain ⟨s1,hs1⟩:=mk_l r;rw [←hs1] at ho hs h47
      cases hf:zAP (s1.data.toList.takeWhile wch) with
      | false=>rw [hf,if_neg (by decide)] at ho;cases ho
      | true =>
       rw [hf,if_pos rfl] at ho
       cases hH:tagH (s1.data.toList.dropWhile wch) with
       | none=>rw [hH] at ho;cases ho
       | some p =>
        obtain ⟨q,m,x⟩:=p;rw [hH] at ho;dsimp only at ho
        cases hfr:zBg [] m with
        | false=>rw [hfr,if_neg (by decide)] at ho;cases ho
        | true =>
         rw [hfr,if_pos rfl] at ho;obtain ⟨e1,e2⟩:=(Prod.mk.injEq _ _ _ _).mp (Option.some.inj ho);obtain ⟨nm,hnm⟩:=mk_l (s1.data.toList.takeWhile wch);rw [←hnm] at e1;subst e1;dsimp only at h16;have hout:zBn (s1.data.toList.dropWhile wch)=.ok (q,m,y.data.toList):=by rw [zBP hH,hfr,if_pos rfl,if_neg (by omega),e2]
         exact (zF3 b s s1 nm y q _ m w h hs h47 hf hnm hout rfl).mono λe' w' ⟨A,n,c,k1,k2,k3,k4⟩=>⟨nm,A,n,c,⟨#[]⟩,k1,k2,k3,k4⟩
  · rw [hs,zJx c r hc,←hs] at ho
    obtain ⟨raw,hraw⟩:=mk_l (s.data.toList.takeWhile (ne 60));rw [←hraw] at ho
    cases hr:rd raw.data.toList with
    | none=>rw [hr] at ho;cases ho
    | some z =>
     rw [hr] at ho;obtain ⟨e1,e2⟩:=(Prod.mk.injEq _ _ _ _).mp (Option.some.inj ho);obtain ⟨v,hv⟩:=mk_l z;subst e1 hv;refine (zFM b s raw y v w h (by rw [hs];intro r' e;injection e with e _;exact hc e) hraw e2.symm hr).mono λe' w' ⟨k1,k2⟩=>⟨⟨#[]⟩,none,0,0,v,rfl,k1,k2,?_⟩
     exact ⟨⟨⟨#[]⟩,none,0,v,rfl,(show 4<256 by decide),rfl,rfl,Nat.le_refl _,Nat.zero_le _,λ_=>rfl,RdC.nil _ _ _⟩,λA n c h ad e=>by
      have h':Value.slice none 0 0=.slice A n c:=Option.some.inj h;injection h' with h1 _ _;subst h1
      cases e⟩
theorem zMl (b:Nat) (s:ByteArray) (er:Int) (w:World) (h:At9 b s w) (h0:s.data.toList≠[]) (ho:zI6 s.data.toList er) :
 Calls prog 143 #[.pointer (some ⟨b,0,none⟩)] w λe w'=>e=zAR er/\∃u,Went b u w w':=by
 cases hs:s.data.toList with
 | nil=>exact absurd hs h0
 | cons c r =>
  by_cases hc:c=60
  · subst hc
    by_cases h47:r.head?=some 47
    · obtain ⟨r2,rfl⟩:∃r2,r=47::r2:=by
       cases r with
       | nil=>cases h47
       | cons d r2=>injection h47 with h47;exact ⟨r2,by rw [h47]⟩
      unfold zI6 at ho;rw [hs,zJb] at ho;obtain ⟨s2,hs2⟩:=mk_l r2;rw [←hs2] at ho hs;rcases ho with ⟨rfl,ho⟩ | ⟨_,t,y',ho,h16⟩
      · exact zGA b s s2 w h hs ho
      · obtain ⟨_,_,_,_,e⟩:=(zDg _ _ _).1 ho
        rw [e] at h16
        simp at h16
    · unfold zI6 at ho
      rw [hs,zMa r h47] at ho;obtain ⟨s1,hs1⟩:=mk_l r;rw [←hs1] at ho hs h47;refine zHr b s s1 er w h hs h47 ?_
      cases hf:zAP (s1.data.toList.takeWhile wch) with
      | false =>
       rw [hf,if_neg (by decide)] at ho;rcases ho with ⟨rfl,_⟩ | ⟨_,t,y',ho,_⟩
       · exact .inl ⟨rfl,rfl⟩
       · cases ho
      | true =>
       rw [hf,if_pos rfl] at ho;refine .inr ⟨rfl,?_⟩
       cases hH:tagH (s1.data.toList.dropWhile wch) with
       | none =>
        rw [hH] at ho;rcases ho with ⟨rfl,_⟩ | ⟨_,t,y',ho,_⟩
        · exact zDM hH
        · cases ho
       | some p =>
        obtain ⟨q,m,x⟩:=p;rw [hH] at ho;dsimp only at ho;rw [zBP hH]
        cases hfr:zBg [] m with
        | false =>
         rw [hfr,if_neg (by decide)] at ho;rcases ho with ⟨rfl,_⟩ | ⟨_,t,y',ho,_⟩
         · rw [if_neg (by decide)]
         · cases ho
        | true =>
         rw [hfr,if_pos rfl] at ho;rcases ho with ⟨_,ho⟩ | ⟨rfl,t,y',ho,h16⟩
         · cases ho
         · obtain ⟨e1,_⟩:=(Prod.mk.injEq _ _ _ _).mp (Option.some.inj ho)
           rw [←e1] at h16;dsimp only at h16;rw [if_pos rfl,if_pos h16]
  · unfold zI6 at ho
    rw [hs,zJx c r hc,←hs] at ho;obtain ⟨raw,hraw⟩:=mk_l (s.data.toList.takeWhile (ne 60));obtain ⟨y,hy⟩:=mk_l (s.data.toList.dropWhile (ne 60));rw [←hraw] at ho
    cases hr:rd raw.data.toList with
    | none =>
     rw [hr] at ho;rcases ho with ⟨rfl,_⟩ | ⟨_,t,y',ho,_⟩
     · exact zGh b s raw y w h (by rw [hs];intro r' e;injection e with e _;exact hc e) hraw hy hr
     · cases ho
    | some z =>
     rw [hr] at ho;rcases ho with ⟨_,ho⟩ | ⟨_,t,y',ho,h16⟩
     · cases ho
     · obtain ⟨e1,_⟩:=(Prod.mk.injEq _ _ _ _).mp (Option.some.inj ho)
       rw [←e1] at h16
       simp at h16
theorem zIn (xT:TypeId) (v:Value) (w:World):(Instr.typeAssert (.iface 25 v) xT 25 false).run prog w=.ok v w:=by
 simp [Instr.typeAssert,run_underlying underlying25,Result.andThen]
theorem zQp (p q:Nat) (hpq:p<q) (v:Value) (x er:Int) (older:List PanicEntry) (w:World) (hl:w.heap[p]?=some (.cells #[v] 83 (0,0))) (he:w.heap[q]?=some (.cells #[.int .i64 x] 25 (0,0))) :
 CallsD prog 142 #[.pointer (some ⟨p,0,none⟩),.pointer (some ⟨q,0,none⟩)] (.panicking ({ v:=.iface 25 (.int .i64 er),recovered:=false }::older)) w λe u' w' =>
  e=.returned (.tuple #[])/\u'=.panicking ({ v:=.iface 25 (.int .i64 er),recovered:=true }::older)/\w'.heap[p]?=some (.cells #[.slice none 0 0] 83 (0,0))/\w'.heap[q]?=some (.cells #[.int .i64 er] 25 (0,0))/\Below p w w':=by
 have k1:w.cell? ⟨p,0,none⟩=some v:=zAA w p 0 _ _ _ hl;have k2:w.cell? ⟨q,0,none⟩=some (.int .i64 x):=zAA w q 0 _ _ _ he;have f1:w.frozen? ⟨p,0,none⟩=false:=zAZ w p 0 _ _ hl;have f2:w.frozen? ⟨q,0,none⟩=false:=zAZ w q 0 _ _ he;have HL:=hI hl;have HE:=hI he;have hne:¬q=p:=by omega
 have hne2:¬p=q:=by omega
 have hta:=λxT=>zIn xT (.int .i64 er)
 have hl1:∀y,(w.setCell ⟨p,0,none⟩ y).heap[q]?=some (.cells #[.int .i64 x] 25 (0,0)):=λy=>(zAH w p 0 q y hne).trans he
 have j2:∀y,(w.setCell ⟨p,0,none⟩ y).cell? ⟨q,0,none⟩=some (.int .i64 x):=λy=>zAA _ q 0 _ _ _ (hl1 y)
 have j3:∀y,(w.setCell ⟨p,0,none⟩ y).frozen? ⟨q,0,none⟩=false:=λy=>zAZ _ q 0 _ _ (hl1 y)
 clear hl he hl1;refine callsD_of_wpS func142 rfl λc₀ cs hu=>?_
 apply wpS_seq;apply wpS_region
 simp [wpOpsS,go_sem,recoverD,hu,ntmps142,Exit.thenS]
 refine wpS_of_wp ?_;rw [show (#[Value.pointer (some ⟨p,0,none⟩),Value.pointer (some ⟨q,0,none⟩)]++((Array.replicate 6 undef).setIfInBounds 1 (Value.iface 25 (.int .i64 er))).setIfInBounds 0 (Value.iface 25 (.int .i64 er)):Array Value)=#[Value.pointer (some ⟨p,0,none⟩),Value.pointer (some ⟨q,0,none⟩),Value.iface 25 (.int .i64 er),Value.iface 25 (.int .i64 er),undef,undef,undef,undef] from rfl]
 go_wp2_with fail
 go_region
 have e1:(w.setCell ⟨p,0,none⟩ (.slice none 0 0)).heap[p]?=some (.cells #[.slice none 0 0] 83 (0,0)):=by simpa using zBq w p 0 _ _ (.slice none 0 0) HL.out
 have e2:(w.setCell ⟨p,0,none⟩ (.slice none 0 0)).heap[q]?=some (.cells #[.int .i64 x] 25 (0,0)):=(zAH w p 0 q _ hne).trans HE.out;have e3:((w.setCell ⟨p,0,none⟩ (.slice none 0 0)).setCell ⟨q,0,none⟩ (.int .i64 er)).heap[q]?=some (.cells #[.int .i64 er] 25 (0,0)):=by simpa using zBq (w.setCell ⟨p,0,none⟩ (.slice none 0 0)) q 0 _ _ (.int .i64 er) e2
 have e4:((w.setCell ⟨p,0,none⟩ (.slice none 0 0)).setCell ⟨q,0,none⟩ (.int .i64 er)).heap[p]?=some (.cells #[.slice none 0 0] 83 (0,0)):=(zAH _ q 0 p _ hne2).trans e1;have e5:Below p w ((w.setCell ⟨p,0,none⟩ (.slice none 0 0)).setCell ⟨q,0,none⟩ (.int .i64 er)).drew:=(((Below.refl p w).setCell (p:=⟨p,0,none⟩) (Nat.le_refl _) _).setCell (p:=⟨q,0,none⟩) (Nat.le_of_lt hpq) _).drew;refine ⟨rfl,_,rfl,.tuple #[],?_,rfl,rfl,e4,e3,e5⟩
 simp [results,results142]
theorem zQS (p q:Nat) (w:World) :
 CallsD prog 142 #[.pointer (some ⟨p,0,none⟩),.pointer (some ⟨q,0,none⟩)] .returning w λe u' w'=>e=.returned (.tuple #[])/\u'=.returning/\w'=w:=by
 refine callsD_of_wpS func142 rfl λc₀ cs hu=>?_
 apply wpS_seq;apply wpS_region
 simp [wpOpsS,go_sem,recoverD,hu,ntmps142,Exit.thenS]
 refine wpS_of_wp ?_;rw [show (#[Value.pointer (some ⟨p,0,none⟩),Value.pointer (some ⟨q,0,none⟩)]++((Array.replicate 6 undef).setIfInBounds 1 Value.nilIface).setIfInBounds 0 Value.nilIface:Array Value)=#[Value.pointer (some ⟨p,0,none⟩),Value.pointer (some ⟨q,0,none⟩),Value.nilIface,Value.nilIface,undef,undef,undef,undef] from rfl]
 go_wp2_with fail
 refine ⟨rfl,.returning,by cases c₀;simp_all,.tuple #[],?_,rfl,rfl,rfl⟩
 simp [results,results142]
structure zLi (rb:Nat) (row:Option Nat) (w w':World):Prop where
 size:w.heap.size<=w'.heap.size
 block:∀k,rb<k->k<w.heap.size->some k≠row->w'.heap[k]?=w.heap[k]?
theorem zJK {rb:Nat} {row:Option Nat} {w w':World} (B:TB) (h:TkC.R w w.heap.size (zAd B) B.t) (hA:0<B.t.attrs.length->∀ad,B.A=some ad->rb<ad.block/\some ad.block≠row) (hk:zLi rb row w w'):TkC.R w' w'.heap.size (zAd B) B.t:=by
 obtain ⟨x',A',c',u',e1,e2,e3,e4,e5,e6,e7,e8⟩:=h;have e1':=e1;unfold zAd at e1';injection e1' with _ e1';injection e1' with _ e1';injection e1' with e9 _;injection e9 with e9 _ _;subst e9;refine ⟨x',_,c',u',e1,e2,e3,e4,e5,e6,e7,λhp=>?_⟩;obtain ⟨b0,off,e10,hlt,hc⟩:=e8 hp;obtain ⟨q1,q2⟩:=hA hp _ e10;dsimp only at q1 q2;refine ⟨b0,off,e10,Nat.lt_of_lt_of_le hlt hk.size,λj hj=>?_⟩;obtain ⟨cs',k1,k2⟩:=hc j hj;refine ⟨cs',k1,λi hi=>?_⟩;rw [World.cell?_of_block (w:=w) (hk.block b0 q1 hlt q2)];exact k2 i hi
structure LxS (w:World) (p q rb:Nat) (L:List TB) (v:Value) (u:ByteArray) (wr:World):Prop where
 gr:Below w.heap.size w wr
 rd:Rd rb u wr
 cl:wr.heap[p]?=some (.cells #[v] 83 (0,0))
 ce:wr.heap[q]?=some (.cells #[.int .i64 0] 25 (0,0))
 own:wr.ownsRow (rb+1) 131 4 v L.length (L.flatMap zAd)
 toks:∀B∈L,TkC.R wr wr.heap.size (zAd B) B.t/\(0<B.t.attrs.length->∀ad,B.A=some ad->rb<ad.block/\some ad.block≠v.ownBlock)
section
variable {w:World} {p q rb:Nat} {L:List TB} {v:Value} {u:ByteArray} {wr:World}
theorem LxS.went (h:LxS w p q rb L v u wr) (hp:w.heap.size<=p) (hpq:p<q) (hq:q<rb) {u':ByteArray} {wr':World} (k:Went rb u' wr wr'):LxS w p q rb L v u' wr':=by
 have hbelow:Below w.heap.size wr wr':=zDJ k.gr (by omega) h.rd.lt;refine ⟨h.gr.trans hbelow,k.rd,k.heap h.cl (by omega),k.heap h.ce (by omega),h.own.kept k.gr ?_,λB hB=>⟨zJK (row:=none) B (h.toks B hB).1 (λhl ad e=>⟨((h.toks B hB).2 hl ad e).1,by simp⟩) ⟨k.gr.size,λj hj hlt _=>k.gr.block j hlt (λe=>by injection e with e;omega)⟩,(h.toks B hB).2⟩⟩
 cases hv:v.ownBlock with
 | none=>exact .inl rfl
 | some j =>
  right
  intro e;have:=(h.own.lt j hv).1;injection e with e
  omega
theorem LxS.below (h:LxS w p q rb L v u wr) {wr':World} (k:Below wr.heap.size wr wr') (hw:w.heap.size<=wr.heap.size):LxS w p q rb L v u wr' :=
 ⟨h.gr.trans (k.mono hw),h.rd.below k,zAB h.cl k,zAB h.ce k,zAF h.own k (Nat.le_refl _),λB hB=>⟨TkC.keep (h.toks B hB).1 k.size (λbl o hlt=>k.cell (p:=⟨bl,o,none⟩) hlt),(h.toks B hB).2⟩⟩
theorem LxS.push {A A1:Option Addr} {c c1 g4 c4:Nat} {x y z:ByteArray} {t:Tk} {w5 w6:World} {ob:Obj} (h:LxS w p q rb L (.slice A L.length c) y w5) (hw:w.heap.size<=p) (hpq:p<q) (hq:q<rb)
 (hR:TkC.R w5 w5.heap.size (zAd ⟨x,A1,c1,z,t⟩) t) (hRb:0<t.attrs.length->∀ad,A1=some ad->rb<ad.block/\some ad.block≠(Value.slice A L.length c).ownBlock)
 (hown:w6.ownsRow (rb+1) 131 4 (.slice (some ⟨g4,0,none⟩) (L.length+1) c4) (L.length+1) (L.flatMap zAd++zAd ⟨x,A1,c1,z,t⟩)) (hgr:(w5.alloc ob).grownBy w6 (Value.slice A L.length c).ownBlock)
 (hor:(Value.slice A L.length c).ownBlock=some g4∨g4=(w5.alloc ob).heap.size) :
 LxS w p q rb (L++[⟨x,A1,c1,z,t⟩]) (.slice (some ⟨g4,0,none⟩) (L.length+1) c4) y (w6.setCell ⟨p,0,none⟩ (.slice (some ⟨g4,0,none⟩) (L.length+1) c4)):=by
 have hne:∀k,k<=rb->some k≠(Value.slice A L.length c).ownBlock:=λk hk e=>by have:=(h.own.lt k e.symm).1;omega
 have stay:∀k o,k<=rb->w5.heap[k]?=some o->w6.heap[k]?=some o:=λk o hk ho=>by
  have h1:=zAB ho (stpA (Below.refl w5.heap.size w5) ob);exact (hgr.block k (Array.getElem?_eq_some_iff.1 h1).1 (hne k hk)).trans h1
 have hsz:w5.heap.size<=w6.heap.size:=Nat.le_trans (by simp) hgr.size;have hset:∀a:Value,((w6.setCell ⟨p,0,none⟩ a).heap.size)=w6.heap.size:=λa=>by simp [World.setCell]
 have ho1:=zBq w6 p 0 _ _ (.slice (some ⟨g4,0,none⟩) (L.length+1) c4) (stay p _ (by omega) h.cl)
 have hbel:Below w.heap.size w5 (w6.setCell ⟨p,0,none⟩ (.slice (some ⟨g4,0,none⟩) (L.length+1) c4)):=by
  refine ⟨hgr.os,hgr.tape,hgr.output,by rw [hset];exact hsz,λk hk=>?_⟩;have hk5:k<w5.heap.size:=Nat.lt_of_lt_of_le hk h.gr.size;rw [zAH w6 p 0 k _ (by omega),hgr.block k (by simp;omega) (hne k (by omega)),Below.heap_alloc _ _ _ hk5]
 have hkept:zLi rb (Value.slice A L.length c).ownBlock w5 (w6.setCell ⟨p,0,none⟩ (.slice (some ⟨g4,0,none⟩) (L.length+1) c4)):=by
  refine ⟨by rw [hset];exact hsz,λk hk hlt hn=>?_⟩;rw [zAH w6 p 0 k _ (by omega),hgr.block k (by simp;omega) hn,Below.heap_alloc _ _ _ hlt]
 have hnew:∀(B:TB),(0<B.t.attrs.length->∀ad,B.A=some ad->rb<ad.block/\some ad.block≠(Value.slice A L.length c).ownBlock)->TkC.R w5 w5.heap.size (zAd B) B.t →
  TkC.R (w6.setCell ⟨p,0,none⟩ (.slice (some ⟨g4,0,none⟩) (L.length+1) c4)) (w6.setCell ⟨p,0,none⟩ (.slice (some ⟨g4,0,none⟩) (L.length+1) c4)).heap.size (zAd B) B.t/\(0<B.t.attrs.length->∀ad,B.A=some ad->rb<ad.block/\some ad.block≠(Value.slice (some ⟨g4,0,none⟩) (L.length+1) c4).ownBlock):=by
  intro B hB hk;refine ⟨zJK B hk hB hkept,λhl ad e=>⟨(hB hl ad e).1,?_⟩⟩;rcases hor with h6 | h6
  · show some ad.block≠some g4
    rw [←h6];exact (hB hl ad e).2
  · show some ad.block≠some g4
    obtain ⟨x',A',c',u',e1,_,_,_,_,_,_,e8⟩:=hk;unfold zAd at e1;injection e1 with _ e1;injection e1 with _ e1;injection e1 with e9 _;injection e9 with e9 _ _;subst e9;obtain ⟨b0,off,e10,hlt,_⟩:=e8 hl;rw [e] at e10;injection e10 with e10;subst e10;intro e11;injection e11 with e11;rw [h6] at e11
    simp at e11
    omega
 refine ⟨h.gr.trans hbel,(zAH w6 p 0 rb _ (by omega)).trans (stay rb _ (Nat.le_refl _) h.rd),by simpa using ho1,(zAH w6 p 0 q _ (by omega)).trans (stay q _ (by omega) h.ce),?_,λB hB=>?_⟩
 · have:=zAf hown p 0 (by omega) (.slice (some ⟨g4,0,none⟩) (L.length+1) c4)
   rw [List.length_append,List.flatMap_append]
   simpa using this
 · rcases List.mem_append.1 hB with hB | hB
   · exact hnew B (h.toks B hB).2 (h.toks B hB).1
   · obtain rfl:=List.mem_singleton.1 hB
     exact hnew _ hRb hR
end
theorem zGY.good9 {s:ByteArray} {w wr:World} {p q rb:Nat} {L:List TB} {A:Option Addr} {c:Nat} {u:ByteArray} (h:LxS w p q rb L (.slice A L.length c) u wr) (hl:lexR s.data.toList=(L.map TB.t,0,0)):zGY s w (.returned (.tuple #[.slice A L.length c,.int .i64 0,.int .i64 0])) wr:=by
 obtain ⟨h1,_,h3,h4,h5⟩:=RdC.of_own (C:=TkC) zAd TB.t (λ_=>rfl) (by decide) L (λb hm=>(h.toks b hm).1) h.own;exact ⟨h.gr,L.map TB.t,0,0,A,c,hl,by rw [List.length_map],h1,by rw [List.length_map];exact h3,h4,h5⟩
theorem LxS.ends {w:World} {p q rb:Nat} {L:List TB} {v:Value} {u:ByteArray} {wr:World} (h:LxS w p q rb L v u wr) (hp:w.heap.size<=p) (hpq:p<q) (hq:q<rb):LxS w p q rb L v u ((wr.setCell ⟨p,0,none⟩ v).setCell ⟨q,0,none⟩ (.int .i64 0)):=by
 have h1:=zBq wr p 0 _ _ v h.cl;have h2:(wr.setCell ⟨p,0,none⟩ v).heap[q]?=some (.cells #[.int .i64 0] 25 (0,0)):=(zAH wr p 0 q _ (by omega)).trans h.ce;have h3:=zBq (wr.setCell ⟨p,0,none⟩ v) q 0 _ _ (.int .i64 0) h2;have hsz:((wr.setCell ⟨p,0,none⟩ v).setCell ⟨q,0,none⟩ (.int .i64 0)).heap.size=wr.heap.size:=by simp [World.setCell]
 refine ⟨(h.gr.setCell (p:=⟨p,0,none⟩) hp v).setCell (p:=⟨q,0,none⟩) (show w.heap.size<=q by omega) _,?_,?_,by simpa using h3,zAf (zAf h.own p 0 (by omega) v) q 0 (by omega) _,λB hB=>⟨zJK (row:=none) B (h.toks B hB).1 (λhl ad e=>⟨((h.toks B hB).2 hl ad e).1,by simp⟩) ⟨by rw [hsz];exact Nat.le_refl _,λj hj hlt _=>(zAH _ q 0 j _ (by omega)).trans (zAH wr p 0 j _ (by omega))⟩,(h.toks B hB).2⟩⟩
 · exact (zAH _ q 0 rb _ (by omega)).trans ((zAH wr p 0 rb _ (by omega)).trans h.rd)
 · exact (zAH _ q 0 p _ (by omega)).trans (by simpa using h1)
theorem zHt (W:World) (p:Nat) {tmps:Array Value} {x er y:Int} {v:Value} {R:Ending->World->Prop} (htmps:tmps.getD 2 undef=.pointer (some ⟨p,0,none⟩)/\tmps.getD 3 undef=.int .i64 x/\tmps.getD 4 undef=.pointer (some ⟨p+1,0,none⟩))
 (hl:W.heap[p]?=some (.cells #[v] 83 (0,0))) (he:W.heap[p+1]?=some (.cells #[.int .i64 y] 25 (0,0))) (h:∀W',Below p W W'->R (.returned (.tuple #[.slice none 0 0,.int .i64 x,.int .i64 er])) W') :
 bodyPostD prog Tryz.f103 R (Exit.panic [{ v:=.iface 25 (.int .i64 er),recovered:=false }]) { tmps:=tmps,defers:=[{ target:=.fn (.func 142) #[.pointer (some ⟨p,0,none⟩),.pointer (some ⟨p+1,0,none⟩)],args:=#[] }] } W:=by
 obtain ⟨h2,h3,h4⟩:=htmps;have h2':tmps[2]?.getD undef=.pointer (some ⟨p,0,none⟩):=by simpa using h2
 have h3':tmps[3]?.getD undef=.int .i64 x:=by simpa using h3
 have h4':tmps[4]?.getD undef=.pointer (some ⟨p+1,0,none⟩):=by simpa using h4
 refine leaves_cons (f:=142) (args:=#[.pointer (some ⟨p,0,none⟩),.pointer (some ⟨p+1,0,none⟩)]) (by simp) (by simp [go_sem]) ?_;refine (zQp p (p+1) (Nat.lt_succ_self _) v y er [] W hl he).mono ?_;rintro e u' w' ⟨rfl,rfl,q1,q2,q3⟩;have c1:=zAA w' _ 0 _ _ _ q1;have c2:=zAA w' _ 0 _ _ _ q2;have:=h w' q3
 simp [Leaves,settle,results,results103,go_sem,h2',h3',h4',c1,c2]
 exact this
theorem zP2 (W:World) (p:Nat) {tmps:Array Value} {x er:Int} {v:Value} {R:Ending->World->Prop} (htmps:tmps.getD 2 undef=.pointer (some ⟨p,0,none⟩)/\tmps.getD 3 undef=.int .i64 x/\tmps.getD 4 undef=.pointer (some ⟨p+1,0,none⟩))
 (hl:W.heap[p]?=some (.cells #[v] 83 (0,0))) (he:W.heap[p+1]?=some (.cells #[.int .i64 er] 25 (0,0))) (h:R (.returned (.tuple #[v,.int .i64 x,.int .i64 er])) W) :
 bodyPostD prog Tryz.f103 R Exit.ret { tmps:=tmps,defers:=[{ target:=.fn (.func 142) #[.pointer (some ⟨p,0,none⟩),.pointer (some ⟨p+1,0,none⟩)],args:=#[] }] } W:=by
 obtain ⟨h2,h3,h4⟩:=htmps;have h2':tmps[2]?.getD undef=.pointer (some ⟨p,0,none⟩):=by simpa using h2
 have h3':tmps[3]?.getD undef=.int .i64 x:=by simpa using h3
 have h4':tmps[4]?.getD undef=.pointer (some ⟨p+1,0,none⟩):=by simpa using h4
 have c1:=zAA W _ 0 _ _ _ hl;have c2:=zAA W _ 0 _ _ _ he;refine leaves_cons (f:=142) (args:=#[.pointer (some ⟨p,0,none⟩),.pointer (some ⟨p+1,0,none⟩)]) (by simp) (by simp [go_sem]) ?_;refine (zQS p (p+1) W).mono ?_;rintro e u' w' ⟨rfl,rfl,rfl⟩
 simp [Leaves,settle,results,results103,go_sem,h2',h3',h4',c1,c2]
 exact h
theorem zO5 (W:World) (p:Nat) {tmps:Array Value} {x er:Int} {v:Value} {R:Ending->World->Prop} (htmps:tmps.getD 2 undef=.pointer (some ⟨p,0,none⟩)/\tmps.getD 3 undef=.int .i64 x/\tmps.getD 4 undef=.pointer (some ⟨p+1,0,none⟩)) (c1:W.cell? ⟨p,0,none⟩=some v) (c2:W.cell? ⟨p+1,0,none⟩=some (.int .i64 er)) (h:R (.returned (.tuple #[v,.int .i64 x,.int .i64 er])) W) :
 bodyPostD prog Tryz.f103 R Exit.ret { tmps:=tmps,defers:=[] } W:=by
 obtain ⟨h2,h3,h4⟩:=htmps;have h2':tmps[2]?.getD undef=.pointer (some ⟨p,0,none⟩):=by simpa using h2
 have h3':tmps[3]?.getD undef=.int .i64 x:=by simpa using h3
 have h4':tmps[4]?.getD undef=.pointer (some ⟨p+1,0,none⟩):=by simpa using h4
 simp [bodyPostD,Leaves,settle,results,results103,go_sem,h2',h3',h4',c1,c2]
 exact h
theorem zDT {P:Program} {fn:Func} {tmps tmps':Array Value} {R:Ending->World->Prop} (h:results fn tmps=results fn tmps'):∀(ds:List Deferred) (u:FrameMode) (w:World),Leaves P fn tmps R ds u w->Leaves P fn tmps' R ds u w
 | [],.returning,w,k=>by
  obtain ⟨v,k1,k2⟩:=k;exact ⟨v,by rw [←h];exact k1,k2⟩
 | [],.panicking _,_,k=>k
 | [],.run,_,k=>k
 | d::ds,u,w,k=>by
  obtain ⟨hu,fv,cap,f,args,e1,e2,hc⟩:=k;refine ⟨hu,fv,cap,f,args,e1,e2,hc.mono λe u' w' q=>?_⟩
  cases e with
  | returned _=>exact zDT h ds _ _ q
  | panicked _=>exact zDT h ds _ _ q
  | outgrown=>exact q
theorem zSd (a:Act) (v:Value):results Tryz.f103 (a.put (some 31) v).tmps=results Tryz.f103 a.tmps:=by
 have hk:∀k,k≠31->(a.put (some 31) v).tmps[k]?=a.tmps[k]?:=λk hk=>by
  simp [Act.put,Array.getElem?_setIfInBounds,Ne.symm hk]
 simp [results,results103,hk 2 (by decide),hk 3 (by decide),hk 4 (by decide)]
def wLex (w:World):World:=(w.alloc (.cells #[.slice none 0 0] 83)).alloc (.cells #[.int .i64 0] 25)
theorem zPf (w:World):(wLex w).heap[w.heap.size]?=some (.cells #[.slice none 0 0] 83 (0,0)):=zAB (heap_alloc_new w _) (stpA (Below.refl _ _) _)
theorem zPl (w:World):(wLex w).heap[w.heap.size+1]?=some (.cells #[.int .i64 0] 25 (0,0)):=by
 have:=heap_alloc_new (w.alloc (.cells #[.slice none 0 0] 83)) (.cells #[.int .i64 0] 25)
 rwa [World.size_alloc] at this
theorem zPW (w:World):Below w.heap.size w (wLex w):=stpA (stpA (Below.refl _ _) _) _
theorem zL3 (w:World):(wLex w).heap.size=w.heap.size+2:=by unfold wLex;simp
theorem zR4 (s:ByteArray) (w:World) (hm:s.size<=1000000) (hE:Ev9 w):Calls prog 103 #[.string s] w (zGY s w):=by
 have hmf:∀(fn:Fn) (first cap:Array Value) (w:World),(Instr.makeFunc fn first cap).run prog w=.ok (.func fn first cap) w:=λ_ _ _ _=>rfl
 obtain ⟨i0,hi,hz0,hz1,hz2⟩:=info_parts zJZ;have HI:=hI hi;have HZ0:=hI hz0;have HZ1:=hI hz1;have HZ2:=hI hz2;clear hi hz0 hz1 hz2;have HM:=hI hm;obtain ⟨er0,her⟩:∃er0,chkE s=er0:=⟨_,rfl⟩;have HCK:Hid (∀W,Calls prog 47 #[.string s] W λe w'=>e=.returned (.int .i64 er0)/\Below W.heap.size W w'):=hI λW=>zCb s W hm er0 her
 by_cases h0:er0=0
 · subst h0
   have h14:s.data.toList.length<=16384/\isP s.data.toList=true:=by
    unfold chkE at her
    by_cases h1:16384<s.size
    · rw [if_pos h1] at her;cases her
    · rw [if_neg h1] at her
      by_cases h2:isP s.data.toList=true
      · exact ⟨by rw [ba_l];omega,h2⟩
      · rw [if_neg (show ¬(pts s.data.toList).isSome=true from h2)] at her;cases her
   have H1:=hI h14.1;have H2:=hI h14.2;have hss:s.size<=16384:=by rw [←ba_l];exact h14.1
   have HEW:=hI hE;clear her h14 hm
   go_enter_defers func103,ntmps103
   go_wp2_with (first
    | (go_at_call 47;(with_reducible refine (HCK.out _).mono ?_);rintro e1 w1 ⟨rfl,hb1⟩;have HB1:Hid (Below (wLex w).heap.size (wLex w) w1):=hI hb1;have hwr:w.heap.size+1<w1.heap.size:=(by have:=HB1.out.size;rw [zL3] at this;omega);clear hb1)
    | (refine wpList_store_row rfl _ _ _ rfl w1.heap.size #[.string s] rfl rfl 176 #[.string ⟨#[]⟩] (heap_alloc_new _ _) (by kernel_rfl) rfl (by rfl) ?_;rw [World.setRow_alloc_new])
    | fail)
   clear HCK HM
   go_loopg [3] 20000 (λgg v3 wr=>∃(L:List TB) (v:Value) (u:ByteArray) (pos:Nat),u.size<=gg/\LxS w w.heap.size (w.heap.size+1) w1.heap.size L v u wr/\u.data.toList=s.data.toList.drop pos/\pos<=s.size/\isP u.data.toList=true/\L.length<=512/\lexG 0 s.data.toList=(lexG L.length u.data.toList).map (L.map TB.t++·))
   case atStart =>
    have hb1:=HB1.out;have hk:=stpA (Below.refl w1.heap.size w1) (.cells #[.string s] 176);refine ⟨[],.slice none 0 0,s,0,by omega,⟨((zPW w).trans (hb1.mono (by rw [zL3];omega))).trans (hk.mono (by omega)),heap_alloc_new _ _,zAB (zAB (zPf w) hb1) hk,zAB (zAB (zPl w) hb1) hk,World.ownsRow_nil _ _ _ _,(λB hB=>by cases hB)⟩,by simp,Nat.zero_le _,H2.out,Nat.zero_le _,?_⟩;show lexG 0 s.data.toList=(lexG 0 s.data.toList).map _
    cases lexG 0 s.data.toList <;> rfl
   case round =>
    obtain ⟨L,v,u,pos,hg,hst,hu,hpos,hpu,hLn,hG⟩:=hrel;obtain ⟨A,c,rfl⟩:=zAD hst.own;have hus:u.size=s.size - pos:=by rw [←ba_l,hu,List.length_drop,ba_l]
    have kr:=hst.rd.cell;have kl:=zAA wr _ 0 _ _ _ hst.cl;have fl:=zAZ wr _ 0 _ _ hst.cl;have ke:=zAA wr _ 0 _ _ _ hst.ce;have fe:=zAZ wr _ 0 _ _ hst.ce;have HST:=hI hst;have HL5:=hI hLn;have HGG:=hI hG;have HWR:=hI hwr
    by_cases h0:u.size=0
    · have hem:u.toList.isEmpty=true:=by rw [zE4];simp [h0]
      have HF:Hid (lexR s.data.toList=(L.map TB.t,0,0)):=hI (by
       rw [zMs H1.out H2.out,hG,List.eq_nil_of_length_eq_zero ((ba_l u).trans h0)];show (match (Except.ok (L.map TB.t++[]):Except (Int × Nat) (List Tk)) with | .ok ts=>(ts,(0:Int),(0:Int)) | .error (e,k)=>([],(s.data.toList.length:Int) - k,e))=_;rw [List.append_nil])
      have fz2:(wr.setCell ⟨w.heap.size,0,none⟩ (.slice A L.length c)).frozen? ⟨w.heap.size+1,0,none⟩=false:=zAZ _ _ 0 _ _ ((zAH wr w.heap.size 0 (w.heap.size+1) _ (by omega)).trans hst.ce);have kz2:(wr.setCell ⟨w.heap.size,0,none⟩ (.slice A L.length c)).cell? ⟨w.heap.size+1,0,none⟩=some (.int .i64 0):=zAA _ _ 0 _ _ _ ((zAH wr w.heap.size 0 (w.heap.size+1) _ (by omega)).trans hst.ce);have HEN:=hI (hst.ends (Nat.le_refl _) (Nat.lt_succ_self _) hwr);clear hst hu hpos hpu hLn hG hus hg h0
      go_wp2_with fail
      (try simp only [Exit.inBlock,Exit.then,Exit.noGoto])
      exact zP2 _ w.heap.size ⟨rfl,rfl,rfl⟩ HEN.out.cl HEN.out.ce (zGY.good9 HEN.out HF.out)
    · have hem:u.toList.isEmpty=false:=by rw [zE4];simp [h0]
      have hpl:pos<s.data.toList.length:=by rw [ba_l];omega
      have hple:pos<=s.data.toList.length:=Nat.le_of_lt hpl;have sp:IntKind.i64.wrap ((s.size:Int) - (u.size:Int))=(pos:Int):=by rw [IntWalk.i64_in _ (by omega)];omega
      have hG':=hG;rw [hu] at hG'
      by_cases h5:L.length=512
      · have f5:((L.length:Int)==512)=true:=by simp;omega
        have HF:Hid (lexR s.data.toList=([],(pos:Int),4)):=hI (zJi H1.out H2.out hple hG' (by
         cases ho:oneL (s.data.toList.drop pos) with
         | none=>rw [zH5 hpl ho,if_pos h5]
         | some r=>obtain ⟨t,y⟩:=r;exact zID hpl ho (.inl h5)))
        clear hst hu hpos hpu hLn hG hus hg h0 hG' h5 hpl hple
        go_wp2_with fail
        (try simp only [Exit.inBlock,Exit.then,Exit.noGoto])
        exact zHt _ w.heap.size ⟨rfl,rfl,rfl⟩ HST.out.cl HST.out.ce λW' hb=>zGY.bad (HST.out.gr.trans hb) HF.out
      · have f5:((L.length:Int)==512)=false:=by simp;omega
        have hAt:At9 w1.heap.size u wr:=⟨hst.rd,hE.to hst.gr,by omega,hpu⟩;have HAT:Hid (At9 w1.heap.size u wr.drew):=hI (hAt.below (Below.refl _ _).drew);have HRB:Hid (w1.heap.size<wr.heap.size):=hI hst.rd.lt;have hn0:u.data.toList≠[]:=λe=>h0 (by rw [←ba_l,e];rfl)
        have hbad:∀er,zI6 u.data.toList er->lexR s.data.toList=([],(pos:Int),er):=λer he=>zJi H1.out H2.out hple hG' (by
         rw [←hu];rcases he with ⟨rfl,ho⟩ | ⟨rfl,t,y,ho,h16⟩
         · rw [hu] at ho ⊢
           rw [zH5 hpl ho,if_neg h5]
         · rw [hu] at ho ⊢
           exact zID hpl ho (.inr h16))
        have hbad2:∀er,zI6 u.data.toList er->(∀W,At9 w1.heap.size u W->Calls prog 143 #[.pointer (some ⟨w1.heap.size,0,none⟩)] W λe w'=>e=.panicked [{ v:=.iface 25 (.int .i64 er),recovered:=false }]/\∃u',Went w1.heap.size u' W w'):=λer he W hW=>zMl w1.heap.size u er W hW hn0 he
        have hcase:(∃er,zI6 u.data.toList er)∨∃t y,oneL u.data.toList=some (t,y)/\t.attrs.length<=16:=by
         cases ho:oneL u.data.toList with
         | none=>exact .inl ⟨80,.inl ⟨rfl,ho⟩⟩
         | some r =>
          obtain ⟨t,y⟩:=r
          by_cases h16:16<t.attrs.length
          · exact .inl ⟨4,.inr ⟨rfl,t,y,ho,h16⟩⟩
          · exact .inr ⟨t,y,rfl,by omega⟩
        rcases hcase with ⟨er,her⟩ | ⟨t,y',ho,h16⟩
        · have HF:=hI (hbad er her)
          have HTK:=hI (hbad2 er her);clear hst hu hpos hpu hLn hG hus hg h0 hG' h5 hpl hple hAt hn0 hbad hbad2 her
          go_wp2_with fail
          refine zAN (λw'=>w'.cell? ⟨w.heap.size,0,none⟩=some (.slice A L.length c)) 4 (by kernel_rfl) ?_;have hS:wr.drew.cell? ⟨w.heap.size,0,none⟩=some (.slice A L.length c):=kl;refine zRa (i:=0) (v:=.slice A L.length c) rfl (by kernel_rfl) (by kernel_rfl) (by kernel_rfl) (by kernel_rfl) (λ_ a _ h=>zDT (zSd a _) _ _ _ h) (Or.inl ⟨by rfl,?_⟩) hS ?_
          · intro w' hSw;(try dsimp only at hSw);go_simp
          try simp only [Act.put,sTA,sTB,sTC]
          refine zAS (i:=1) (by kernel_rfl) rfl (λK hK=>?_)
          go_simp
          go_at_call 143;(with_reducible refine (HTK.out _ HAT.out).mono ?_);rintro e5 w5 ⟨rfl,u5,hw5⟩
          (try simp only [Exit.inBlock,Exit.then,Exit.noGoto])
          have HS5:=(HST.out.below (Below.refl _ _).drew HST.out.gr.size).went (Nat.le_refl _) (Nat.lt_succ_self _) HWR.out hw5;exact zHt _ w.heap.size ⟨rfl,rfl,rfl⟩ HS5.cl HS5.ce λW' hb=>zGY.bad (HS5.gr.trans hb) HF.out
        · obtain ⟨y,hy⟩:=mk_l y'
          subst hy;obtain ⟨k,hk,hsuf⟩:=zIt ho;have hyl:=zDA ho;rw [ba_l,ba_l] at hyl;have HTK:Hid (∀W,At9 w1.heap.size u W->Calls prog 143 #[.pointer (some ⟨w1.heap.size,0,none⟩)] W λe w'=>∃(x:ByteArray) (A:Option Addr) (n c:Nat) (z:ByteArray),t.attrs.length=n/\e=.returned (.agg #[.int .u8 (t.kind:Int),.string x,.slice A n c,.string z])/\Went w1.heap.size y W w'∧TkR W.heap.size w' #[.int .u8 (t.kind:Int),.string x,.slice A n c,.string z] t):=hI λW hW=>zKo w1.heap.size u y t W hW ho h16
          have HPY:Hid (isP y.data.toList=true):=hI (zFd ho hpu (by rw [ba_l];omega)).2.1;have HNY:Hid (y.data.toList=s.data.toList.drop (pos+k)/\pos+k<=s.size/\y.size<=gk - 1/\0<gk/\L.length+1<=512):=hI ⟨by rw [hsuf,hu,List.drop_drop],by rw [ba_l] at hk;omega,by omega,by omega,by omega⟩
          have HNX:Hid (lexG 0 s.data.toList=(lexG (L.length+1) y.data.toList).map ((L.map TB.t++[t])++·)):=hI (by
           have hnx:=zMP (n:=L.length) hpl (hu ▸ ho) (by rintro (h | h);exact h5 h;omega);rw [hG',hnx]
           cases lexG (L.length+1) y.data.toList <;> simp [Except.map])
          clear hst hu hpos hpu hLn hG hus hg h0 hG' h5 hpl hple hAt hn0 hbad hbad2 ho h16 hk hsuf hyl
          go_wp2_with fail
          refine wp_region_noPanic ?_;refine zAN (λw'=>w'.cell? ⟨w.heap.size,0,none⟩=some (.slice A L.length c)) 4 (by kernel_rfl) ?_;have hS:wr.drew.cell? ⟨w.heap.size,0,none⟩=some (.slice A L.length c):=kl;refine tkZ (i:=0) (v:=.slice A L.length c) rfl (Or.inl ⟨by rfl,?_⟩) hS ?_
          · intro w' hSw;(try dsimp only at hSw);go_simp
          try simp only [Act.put,sTA,sTB,sTC]
          refine zAS (i:=1) (by kernel_rfl) rfl (λK hK=>?_)
          go_simp
          go_at_call 143;(with_reducible refine (HTK.out _ HAT.out).mono ?_);rintro e5 w5 ⟨x,A1,n1,c1,z,rfl,rfl,hw5,hR⟩
          have HS5:Hid (LxS w w.heap.size (w.heap.size+1) w1.heap.size L (.slice A L.length c) y w5):=hI ((HST.out.below (Below.refl _ _).drew HST.out.gr.size).went (Nat.le_refl _) (Nat.lt_succ_self _) HWR.out hw5);have HRR:Hid (TkC.R w5 w5.heap.size (zAd ⟨x,A1,c1,z,t⟩) t):=hI hR.1
          have HRB2:Hid (0<t.attrs.length->∀ad,A1=some ad->w1.heap.size<ad.block/\some ad.block≠(Value.slice A L.length c).ownBlock):=hI λ_ ad e=>by
           have h1:wr.heap.size<=ad.block:=hR.2 A1 _ c1 rfl ad e;refine ⟨Nat.lt_of_lt_of_le HRB.out h1,λe2=>?_⟩;have:=(HST.out.own.lt _ e2.symm).2
           omega
          have c5:w5.cell? ⟨w.heap.size,0,none⟩=some (.slice A L.length c):=zAA w5 _ 0 _ _ _ HS5.out.cl;clear hw5 hR
          go_wp2_with fail
          refine hK.out _ _ (λ_=>c5) (λ_=>?_);clear hK K
          try simp only [Act.put,sTA,sTB,sTC]
          refine zAS (i:=2) (by kernel_rfl) rfl (λK hK=>?_)
          go_simp
          have cW:(w5.alloc (.cells #[.int .u8 (t.kind:Int),.string x,.slice A1 t.attrs.length c1,.string z] 131)).cell? ⟨w.heap.size,0,none⟩=some (.slice A L.length c):=zAA _ _ 0 _ _ _ (zAB HS5.out.cl (stpA (Below.refl _ _) _));refine hK.out _ _ (λ_=>cW) (λ_=>?_);clear hK K
          try simp only [Act.put,sTA,sTB,sTC]
          refine zAS (i:=3) (by kernel_rfl) rfl (λK hK=>?_);refine step_append_lies _ rfl (.tmp 31) (.tmp 33) 83 rfl (w1.heap.size+1) 131 i0 (.agg #[.int .u8 0,.string ⟨#[]⟩,.slice none 0 0,.string ⟨#[]⟩]) 4 64 underlying83 HI.out HZ0.out HZ1.out HZ2.out rfl (by decide) _ L.length _ rfl (zAF HS5.out.own (stpA (Below.refl _ _) _) (Nat.le_refl _)) ⟨w5.heap.size,0,none⟩ 1 1 [.int .u8 (t.kind:Int),.string x,.slice A1 t.attrs.length c1,.string z] rfl rfl (zAp w5 [.int .u8 (t.kind:Int),.string x,.slice A1 t.attrs.length c1,.string z] 131 _ rfl) (zHw _ _ _ _ _ _) (by decide) (by have:=HL5.out;unfold maxLen;omega) (by have:=HL5.out;omega) (by have:=HS5.out.rd.lt;simp;omega) _ rfl ?_;intro g6 c6 w6 hown6 hgr6 hor hlt6;have HP6:=hI (HS5.out.push (Nat.le_refl _) (Nat.lt_succ_self _) HWR.out HRR.out HRB2.out hown6 hgr6 hor)
          have h6:w6.heap[w.heap.size]?=some (.cells #[.slice A L.length c] 83 (0,0)):=by
           have h1:=zAB HS5.out.cl (stpA (Below.refl w5.heap.size w5) (.cells #[.int .u8 (t.kind:Int),.string x,.slice A1 t.attrs.length c1,.string z] 131));exact (hgr6.block _ (Array.getElem?_eq_some_iff.1 h1).1 (λe=>by have:=(HS5.out.own.lt _ e.symm).1;have:=HWR.out;omega)).trans h1
          have k6:w6.cell? ⟨w.heap.size,0,none⟩=some (.slice A L.length c):=zAA w6 _ 0 _ _ _ h6;have f6:w6.frozen? ⟨w.heap.size,0,none⟩=false:=zAZ w6 _ 0 _ _ h6;clear hown6 hgr6 hor h6;refine hK.out _ _ (λ_=>k6) (λ_=>?_);clear hK K
          try simp only [Act.put,sTA,sTB,sTC]
          refine zAS (i:=4) (by kernel_rfl) rfl (λK hK=>?_)
          go_simp
          refine hK.out _ _ (λh=>absurd rfl h) (λ_=>?_);clear hK K
          try simp only [Act.put,sTA,sTB,sTC]
          refine zCU (by kernel_rfl) ?_ _;refine NoPanic.normal ?_
          go_wp2_with fail
          go_roundg (gk - 1)
          case rel=>exact ⟨L++[⟨x,A1,c1,z,t⟩],_,y,pos+k,HNY.out.2.2.1,by simpa using HP6.out,HNY.out.1,HNY.out.2.1,HPY.out,by rw [List.length_append];exact HNY.out.2.2.2.2,by rw [HNX.out,List.map_append,List.length_append];rfl⟩
          case measure=>have:=HNY.out.2.2.2.1;omega
 · have g0:(er0 != 0)=true:=by simpa using h0
   have hlits:er0=4∨er0=50:=by
    rcases zJc s with k | k | k
    · exact absurd (her.symm.trans k) h0
    · exact .inl (her.symm.trans k)
    · exact .inr (her.symm.trans k)
   have hw:IntKind.i64.wrap er0=er0:=by rcases hlits with rfl | rfl <;> rfl
   have HF:Hid (lexR s.data.toList=([],0,er0)):=hI (by
    unfold chkE at her;unfold lexR
    by_cases h1:16384<s.size
    · rw [if_pos h1] at her
      rw [if_pos (by rw [ba_l];exact h1),her]
    · rw [if_neg h1] at her
      rw [if_neg (by rw [ba_l];exact h1)]
      by_cases h2:isP s.data.toList=true
      · rw [if_pos (show (pts s.data.toList).isSome=true from h2)] at her
        exact absurd her.symm h0
      · rw [if_neg (show ¬(pts s.data.toList).isSome=true from h2)] at her
        rw [if_neg h2,her])
   clear her h0 hlits hE hm
   go_enter_defers func103,ntmps103
   go_wp2_with (first
    | (go_at_call 47;(with_reducible refine (HCK.out _).mono ?_);rintro e1 w1 ⟨rfl,hb1⟩;have HB1:Hid (Below (wLex w).heap.size (wLex w) w1):=hI hb1;have HL1:=hI (zAB (zPf w) HB1.out);have HE1:=hI (zAB (zPl w) HB1.out);have k1:=zAA w1 _ 0 _ _ _ HL1.out;have k2:=zAA w1 _ 0 _ _ _ HE1.out;have f1:=zAZ w1 _ 0 _ _ HL1.out;have f2:=zAZ w1 _ 0 _ _ HE1.out;clear hb1)
    | fail)
   obtain ⟨W,hW⟩:∃W,(w1.setCell ⟨w.heap.size,0,none⟩ (.slice none 0 0)).setCell ⟨w.heap.size+1,0,none⟩ (.int .i64 er0)=W:=⟨_,rfl⟩
   have hWl:W.heap[w.heap.size]?=some (.cells #[.slice none 0 0] 83 (0,0)):=by
    rw [←hW];refine (zAH _ (w.heap.size+1) 0 w.heap.size _ (by omega)).trans ?_
    simpa using zBq w1 w.heap.size 0 _ _ (.slice none 0 0) HL1.out
   have hWe:W.heap[w.heap.size+1]?=some (.cells #[.int .i64 er0] 25 (0,0)):=by
    rw [←hW]
    simpa using zBq (w1.setCell ⟨w.heap.size,0,none⟩ (.slice none 0 0)) (w.heap.size+1) 0 _ _ (.int .i64 er0) ((zAH w1 w.heap.size 0 (w.heap.size+1) _ (by omega)).trans HE1.out)
   have hWb:Below w.heap.size w W:=by
    rw [←hW];exact (((zPW w).trans (HB1.out.mono (by rw [zL3];omega))).setCell (p:=⟨w.heap.size,0,none⟩) (Nat.le_refl _) _).setCell (p:=⟨w.heap.size+1,0,none⟩) (Nat.le_succ _) _
   have c1:=zAA W _ 0 _ _ _ hWl;have c2:=zAA W _ 0 _ _ _ hWe;rw [hW];exact zO5 W w.heap.size ⟨rfl,rfl,rfl⟩ c1 c2 (zGY.bad hWb HF.out)
end Hx
end Go.Proofs.YtlgppednjkbgiaaGreatDoor
