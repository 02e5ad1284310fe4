/-
  Texts of one seat, put together: EscC, EscD, EscA, NumT, NumU, NumX.
-/
import Derived.Test.YtlgppednjkbgiaaGreatDoorMbA
import Derived.Test.YtlgppednjkbgiaaGreatDoorMb06
import Derived.Test.YtlgppednjkbgiaaGreatDoorShelf
import Derived.Lib.ConvBytes
import Derived.Laws.Externs
import Derived.Test.YtlgppednjkbgiaaGreatDoorMb02
import Derived.Test.YtlgppednjkbgiaaGreatDoorMb00
import Derived.Test.YtlgppednjkbgiaaGreatDoorMb05
set_option maxRecDepth 100000
set_option maxHeartbeats 16000000
set_option linter.unusedVariables false
namespace Go.Proofs.YtlgppednjkbgiaaGreatDoor
open Go.RowKit Go.Proofs.Tryz
namespace Hx
open Tx Nmb Es
def lowv (c:UInt8):Nat:=(c ||| 32).toNat
theorem zOG (c:UInt8):bits .or .u8 (c.toNat:Int) 32=(lowv c:Int):=zA4 (fun c=>bits .or .u8 (c.toNat:Int) 32=(lowv c:Int)) (by decide +kernel) c
theorem zLq (c:UInt8):lowv c≤255∧((48≤c.toNat∧c.toNat≤57∧hxv c=some (c.toNat - 48))∨((c.toNat < 48∨57 < c.toNat)∧c.toNat≠95∧97≤lowv c∧lowv c≤102∧hxv c=some (lowv c - 87)) ∨
 ((c.toNat < 48∨57 < c.toNat)∧c.toNat≠95∧103≤lowv c∧lowv c≤122∧hxv c=none)∨((c.toNat < 48∨57 < c.toNat)∧(lowv c < 97∨122 < lowv c)∧hxv c=none)) :=
 zA4 (fun c=>lowv c≤255∧((48≤c.toNat∧c.toNat≤57∧hxv c=some (c.toNat - 48))∨((c.toNat < 48∨57 < c.toNat)∧c.toNat≠95∧97≤lowv c∧lowv c≤102∧hxv c=some (lowv c - 87)) ∨
  ((c.toNat < 48∨57 < c.toNat)∧c.toNat≠95∧103≤lowv c∧lowv c≤122∧hxv c=none)∨((c.toNat < 48∨57 < c.toNat)∧(lowv c < 97∨122 < lowv c)∧hxv c=none))) (by decide +kernel) c
theorem zFt (z y:Int) (w:World) (h:bits .or .u8 z 32=y) :
 Calls prog 273 #[.int .u8 z] w fun e w'=>e=.returned (.int .u8 y)∧w=w':=by
 go_enter func273,ntmps273
 go_wp2
 go_ret
 exact ⟨rfl,rfl⟩
def puV (o:Option Nat) (ev:Value):Value:=match o with | some n=>.tuple #[.int .u64 (n:Int),.nilIface] | none=>.tuple #[.int .u64 0,ev]
def puE:Value:=.iface 290 (.int .i64 2)
theorem zSL {k:Nat} (h:k≤5):16 ^ k≤1048576:=Nat.le_trans (Nat.pow_le_pow_right (by decide) h) (by decide)
theorem zHZ {x:Int} (h0:0≤x) (h1:x≤9007199254740991):IntKind.u64.wrap x=x:=by rw [IntKind.wrap_u64];omega
theorem zNo {x:Int} (h0:0≤x) (h1:x≤255):IntKind.u8.wrap x=x:=by rw [IntKind.wrap_u8];omega
theorem ipu8 (t:ByteArray) (w:World) (h0:1≤t.size) (h6:t.size≤6) (o:Option Nat) (ho:hexF t.data.toList=o) :
 Calls prog 268 #[.string t,.int .i64 16,.int .i64 64] w fun e w'=>e=.returned (puV o puE)∧Below w.heap.size w w':=by
 have hemp:t.toList.isEmpty=false:=by
  rw [←decide_eq_emptyBytes];exact decide_eq_false (fun h=>by rw [h] at h0;exact absurd h0 (by decide))
 have hcv:=Lib.run_convert_string_bytes (P:=prog) w 9 167 5 t underlying9 underlying167 underlying5;have hB:Hid (∀j,j < t.size→(Lib.bytesWorld w 5 t).cell? ⟨w.heap.size,j,none⟩=some (.int .u8 (t.data.toList.getD j 0).toNat)):=fun j hj=>Lib.bytesWorld_cell w 5 t j hj
 have hbel:Hid (Below w.heap.size w (Lib.bytesWorld w 5 t)):=hI (Lib.bytesWorld_below _ _ _);obtain ⟨W1,hW1⟩:∃W1,W1=Lib.bytesWorld w 5 t:=⟨_,rfl⟩;rw [←hW1] at hcv hB hbel;clear hW1;have HO:=hI ho;clear ho
 have hmv:IntKind.u64.wrap (IntKind.u64.wrap 18446744073709551616 - 1)=18446744073709551615:=by
  rw [IntKind.wrap_u64,IntKind.wrap_u64]
  decide
 go_enter func268,ntmps268
 go_wp2_with fail
 go_loopg [12,13,101] t.size (fun gg vu vn vi wr=>∃(k acc:Nat) (a:Int),k+gg=t.size∧vu=.bool false∧vn=.int .u64 a∧vi=.int .i64 k∧wr=W1∧Hid (a=(acc:Int)∧acc+1≤16 ^ k∧hexF (t.data.toList.take k)=some acc))
 case atStart=>exact ⟨0,0,0,by omega,rfl,rfl,rfl,rfl,hI ⟨rfl,by decide,rfl⟩⟩
 case round =>
  obtain ⟨k,acc,a,hk,rfl,rfl,rfl,rfl,hh⟩:=hrel
  by_cases hlt:k < t.size
  · obtain ⟨c,hc,hat⟩:=zJz t k hlt
    have hcell:=hB.out k hlt;rw [show t.data.toList.getD k 0=c by rw [List.getD_eq_getElem?_getD,hc];rfl] at hcell;obtain ⟨z,hz⟩:∃z:Int,(c.toNat:Int)=z:=⟨_,rfl⟩;obtain ⟨y,hy⟩:∃y:Int,(lowv c:Int)=y:=⟨_,rfl⟩;have HY:Hid (bits .or .u8 z 32=y):=by show _=_;rw [←hz,←hy];exact zOG c
    have bk:(0:Int)≤(k:Int)∧(k:Int) < (t.size:Int):=by omega
    have hzr:0≤z∧z≤255:=by have:=c.toNat_lt;omega
    obtain ⟨hl255,hcs⟩:=zLq c;have hyr:0≤y∧y≤255:=by omega
    have ha1:a+1≤1048576∧0≤a:=by
     obtain ⟨h1,h2,_⟩:=hh.out;have:=zSL (show k≤5 by omega)
     omega
    have d1:decide ((1152921504606846976:Int)≤a)=false:=by simp;omega
    obtain ⟨m,hm⟩:∃m:Int,a*16=m:=⟨_,rfl⟩;have w1:IntKind.u64.wrap m=m:=zHZ (by omega) (by omega);rw [hz] at hcell;rcases hcs with ⟨q1,q2,q3⟩ | ⟨q1,q0,q2,q3,q4⟩ | ⟨q1,q0,q2,q3,q4⟩ | ⟨q1,q2,q4⟩
    · -- a digit
      have z1:(48:Int)≤z∧z≤57:=by omega
      obtain ⟨d,hd⟩:∃d:Int,z - 48=d:=⟨_,rfl⟩;have d2:IntKind.u8.wrap d=d:=zNo (by omega) (by omega);have d3:decide ((16:Int)≤d)=false:=by simp;omega
      obtain ⟨v,hv⟩:∃v:Int,m+d=v:=⟨_,rfl⟩;have w2:IntKind.u64.wrap d=d:=zHZ (by omega) (by omega);have w3:IntKind.u64.wrap v=v:=zHZ (by omega) (by omega);have d4:decide (v < m)=false:=by simp;omega
      have d5:decide ((18446744073709551615:Int) < v)=false:=by simp;omega
      have HN:Hid (v=((16*acc+(c.toNat - 48):Nat):Int)∧(16*acc+(c.toNat - 48))+1≤16 ^ (k+1)∧hexF (t.data.toList.take (k+1))=some (16*acc+(c.toNat - 48))):=by
       obtain ⟨h1,h2,h3⟩:=hh.out;refine hI ⟨by omega,?_,zH3 hc h3 q3⟩;rw [Nat.pow_succ]
       omega
      clear hc hat hz hy q1 q2 q3 hl255 ha1 hyr
      go_wp2_with fail
      go_roundg (gk - 1)
      case rel=>exact ⟨k+1,_,v,by omega,rfl,rfl,by go_num,rfl,HN⟩
      case measure=>omega
    · -- a letter
      have y1:(97:Int)≤y∧y≤102:=by omega
      obtain ⟨f,hf⟩:∃f:Int,y - 97=f:=⟨_,rfl⟩;have d0:IntKind.u8.wrap f=f:=zNo (by omega) (by omega);obtain ⟨d,hd⟩:∃d:Int,f+10=d:=⟨_,rfl⟩;have d2:IntKind.u8.wrap d=d:=zNo (by omega) (by omega);have d3:decide ((16:Int)≤d)=false:=by simp;omega
      obtain ⟨v,hv⟩:∃v:Int,m+d=v:=⟨_,rfl⟩;have w2:IntKind.u64.wrap d=d:=zHZ (by omega) (by omega);have w3:IntKind.u64.wrap v=v:=zHZ (by omega) (by omega);have d4:decide (v < m)=false:=by simp;omega
      have d5:decide ((18446744073709551615:Int) < v)=false:=by simp;omega
      have HN:Hid (v=((16*acc+(lowv c - 87):Nat):Int)∧(16*acc+(lowv c - 87))+1≤16 ^ (k+1)∧hexF (t.data.toList.take (k+1))=some (16*acc+(lowv c - 87))):=by
       obtain ⟨h1,h2,h3⟩:=hh.out;refine hI ⟨by omega,?_,zH3 hc h3 q4⟩;rw [Nat.pow_succ]
       omega
      have z1:z < 48∨57 < z:=by omega
      have z2:¬z=95:=by omega
      clear hc hat hz hy q1 q2 q3 q4 hl255 ha1 q0;rcases z1 with z1 | z1
      · go_wp2_with (first
         | (go_at_call 273;(with_reducible refine (zFt z y wr HY.out).mono ?_);rintro e1 w4 ⟨rfl,rfl⟩)
         | fail)
        go_roundg (gk - 1)
        case rel=>exact ⟨k+1,_,v,by omega,rfl,rfl,by go_num,rfl,HN⟩
        case measure=>omega
      · go_wp2_with (first
         | (go_at_call 273;(with_reducible refine (zFt z y wr HY.out).mono ?_);rintro e1 w4 ⟨rfl,rfl⟩)
         | fail)
        go_roundg (gk - 1)
        case rel=>exact ⟨k+1,_,v,by omega,rfl,rfl,by go_num,rfl,HN⟩
        case measure=>omega
    · -- a letter that is no digit
      have y1:(103:Int)≤y∧y≤122:=by omega
      obtain ⟨f,hf⟩:∃f:Int,y - 97=f:=⟨_,rfl⟩;have d0:IntKind.u8.wrap f=f:=zNo (by omega) (by omega);obtain ⟨d,hd⟩:∃d:Int,f+10=d:=⟨_,rfl⟩;have d2:IntKind.u8.wrap d=d:=zNo (by omega) (by omega);have d3:decide ((16:Int)≤d)=true:=by simp;omega
      obtain rfl:none=o:=by rw [←HO.out,zEu hc q4]
      have z1:z < 48∨57 < z:=by omega
      have z2:¬z=95:=by omega
      clear hc hat hz hy q1 q2 q3 q4 hl255 ha1 q0;rcases z1 with z1 | z1
      · go_wp2_with (first
         | (go_at_call 273;(with_reducible refine (zFt z y wr HY.out).mono ?_);rintro e1 w4 ⟨rfl,rfl⟩)
         | fail)
        all_goals go_ret2
        all_goals exact ⟨rfl,hbel.out⟩
      · go_wp2_with (first
         | (go_at_call 273;(with_reducible refine (zFt z y wr HY.out).mono ?_);rintro e1 w4 ⟨rfl,rfl⟩)
         | fail)
        all_goals go_ret2
        all_goals exact ⟨rfl,hbel.out⟩
    · -- another byte
      obtain rfl:none=o:=by rw [←HO.out,zEu hc q4]
      have z1:z < 48∨57 < z:=by omega
      have y1:y < 97∨122 < y:=by omega
      clear hc hat hz hy q1 q2 q4 hl255 ha1
      by_cases z2:z=95
      · subst z2
        rcases y1 with y1 | y1
        all_goals go_wp2_with (first
         | (go_at_call 273;(with_reducible refine (zFt 95 y wr HY.out).mono ?_);rintro e1 w4 ⟨rfl,rfl⟩)
         | fail)
        all_goals go_ret2
        all_goals exact ⟨rfl,hbel.out⟩
      · rcases z1 with z1 | z1 <;> rcases y1 with y1 | y1
        all_goals go_wp2_with (first
         | (go_at_call 273;(with_reducible refine (zFt z y wr HY.out).mono ?_);rintro e1 w4 ⟨rfl,rfl⟩)
         | fail)
        all_goals go_ret2
        all_goals exact ⟨rfl,hbel.out⟩
  · obtain rfl:t.size=k:=by omega
    obtain ⟨h1,h2,h3⟩:=hh.out;have htk:t.data.toList.take t.size=t.data.toList:=List.take_of_length_le (by rw [zAV];exact Nat.le_refl _);rw [htk,HO.out] at h3;subst h3;subst h1;clear hh h2 htk
    go_wp2_with fail
    go_ret2
    exact ⟨rfl,hbel.out⟩
def Ev (w:World):Prop:=∃te pe,w.cell? ⟨7,0,none⟩=some (.iface te pe)
theorem Ev.to {w w':World} (h:Ev w) (hb:Below w.heap.size w w'):Ev w':=by
 obtain ⟨te,pe,h⟩:=h;exact ⟨te,pe,(hb.cell (show (⟨7,0,none⟩:Addr).block < w.heap.size from Lib.lt_of_cell h)).trans h⟩
theorem zRc (fn s:ByteArray) (base bits:Int) (w:World) (hlim:s.size≤1000000) (hE:Ev w) :
 Calls prog 269 #[.string fn,.string s,.int .i64 base,.int .i64 bits,puE] w fun e w'=>∃v,e=.returned (.iface 292 v)∧Below w.heap.size w w':=by
 obtain ⟨te,pe,h⟩:=hE;exact (Tryz.strconv_toError_syntax fn s base bits _ w (by omega) h (.inr ⟨te,pe,rfl⟩)).mono fun e w' ⟨N,h1,_,_,h2⟩=>⟨_,h1,h2⟩
theorem zLx (t:ByteArray) (w:World) (h0:t.size=0) :
 Calls prog 268 #[.string t,.int .i64 16,.int .i64 64] w fun e w'=>e=.returned (puV none puE)∧Below w.heap.size w w':=by
 have hemp:t.toList.isEmpty=true:=by
  rw [ByteArray.toList_eq,List.isEmpty_iff];exact List.eq_nil_of_length_eq_zero (by rw [zAV];exact h0)
 clear h0
 go_enter func268,ntmps268
 go_wp2_with fail
 go_ret2
 exact ⟨rfl,Below.refl _ _⟩
def hexO (l:List UInt8):Option Nat:=if l=[] then none else hexF l
theorem ipu (t:ByteArray) (w:World) (h6:t.size≤6) (o:Option Nat) (ho:hexO t.data.toList=o) :
 Calls prog 268 #[.string t,.int .i64 16,.int .i64 64] w fun e w'=>e=.returned (puV o puE)∧Below w.heap.size w w':=by
 have hl:t.data.toList.length=t.size:=zAV t
 by_cases h0:t.size=0
 · unfold hexO at ho
   rw [if_pos (List.eq_nil_of_length_eq_zero (by omega))] at ho;subst ho;exact zLx t w h0
 · refine ipu8 t w (by omega) h6 o ?_
   unfold hexO at ho
   rwa [if_neg (fun e=>by rw [e] at hl;exact h0 hl.symm)] at ho
theorem zQB (t:ByteArray) (n:Nat) (w:World) (h6:t.size≤6) (ho:hexO t.data.toList=some n) :
 Calls prog 260 #[.string t,.int .i64 16,.int .i64 64] w fun e w'=>e=.returned (.tuple #[.int .u64 (n:Int),.nilIface])∧Below w.heap.size w w':=by
 have H:Hid (Calls prog 268 #[.string t,.int .i64 16,.int .i64 64] w fun e w'=>e=.returned (.tuple #[.int .u64 (n:Int),.nilIface])∧Below w.heap.size w w'):=ipu t w h6 _ ho;clear h6 ho
 go_enter func260,ntmps260
 go_wp2_with (first
  | (go_at_call 268;(with_reducible refine (H.out).mono ?_);rintro e w1 ⟨rfl,hb1⟩)
  | fail)
 go_ret2
 exact ⟨rfl,hb1⟩
theorem zP8 (t:ByteArray) (w:World) (h6:t.size≤6) (ho:hexO t.data.toList=none) (hE:Ev w) :
 Calls prog 260 #[.string t,.int .i64 16,.int .i64 64] w fun e w'=>(∃v,e=.returned (.tuple #[.int .u64 0,.iface 292 v]))∧Below w.heap.size w w':=by
 have H:Hid (Calls prog 268 #[.string t,.int .i64 16,.int .i64 64] w fun e w'=>e=.returned (.tuple #[.int .u64 0,puE])∧Below w.heap.size w w'):=ipu t w h6 _ ho;have HL:Hid (t.size≤1000000):=hI (by omega);have HE:=hI hE;unfold puE at H;clear h6 ho hE
 go_enter func260,ntmps260
 go_wp2_with (first
  | (go_at_call 268;(with_reducible refine (H.out).mono ?_);rintro e w1 ⟨rfl,hb1⟩)
  | (go_at_call 269;refine (zRc _ t 16 64 w1 HL.out (HE.out.to hb1)).mono ?_;rintro e w2 ⟨v,rfl,hb2⟩)
  | fail)
 go_ret2
 exact ⟨⟨v,rfl⟩,stp hb1 hb2⟩
def hexI (l:List UInt8):Int × Int:=match hexV l with | some n=>((n:Int),0) | none=>(0,80)
theorem zQz {l:List UInt8} {n:Nat} (h:hexO l=some n) (h6:l.length≤6):n≤16777215:=by
 unfold hexO at h
 split at h
 · cases h
 · have key:∀(k:Nat),k≤l.length→∀m,hexF (l.take k)=some m→m+1≤16 ^ k:=by
    intro k
    induction k with
    | zero=>intro _ m h;cases h;decide
    | succ k ih =>
     intro hk m hm;have hc:l[k]?=some (l[k]'(by omega)):=List.getElem?_eq_getElem (by omega);rw [zDB hc,zFF] at hm
     cases h1:hexF (l.take k) with
     | none=>rw [h1] at hm;cases hm
     | some p =>
      have:=ih (by omega) p h1;rw [h1] at hm
      cases h3:hxv (l[k]'(by omega)) with
      | none=>rw [h3] at hm;cases hm
      | some d =>
       rw [h3] at hm
       have hd:d≤15:=by
        unfold hxv at h3
        split at h3
        · cases h3;omega
        · split at h3
          · cases h3;omega
          · split at h3
            · cases h3;omega
            · cases h3
       have:m=16*p+d:=by simpa using hm.symm
       rw [this,Nat.pow_succ]
       omega
   have:=key l.length (Nat.le_refl _) n (by rw [List.take_length];exact h);have h2:16 ^ l.length≤16 ^ 6:=Nat.pow_le_pow_right (by decide) h6;have h3:(16:Nat) ^ 6=16777216:=by decide
   omega
theorem zRk {l:List UInt8} (h6:¬6 < l.length) (h:l.head?≠some 48):hexV l=hexO l:=by
 unfold hexO
 by_cases h0:l=[]
 · rw [if_pos h0,zGG (.inl h0)]
 · rw [if_neg h0,zP1 h0 h6 h]
theorem zSl (l:List UInt8):Lib.hasPrefix l [48]=decide (l.head?=some 48):=by
 cases l with
 | nil=>rfl
 | cons c r =>
  by_cases hb:c=48
  · subst hb;simp [Lib.hasPrefix,List.isPrefixOf]
  · have hb2:(48==c)=false:=by simpa using Ne.symm hb
    have e:decide ((c::r).head?=some 48)=false:=decide_eq_false (fun h=>hb (Option.some.inj h));rw [e]
    simp [Lib.hasPrefix,List.isPrefixOf,hb2]
theorem hp48 (s:ByteArray) (b:Bool) (w:World) (h:decide (s.data.toList.head?=some 48)=b) :
 Calls prog 115 #[.string s,.string ⟨#[48]⟩] w fun e w'=>e=.returned (.bool b)∧w=w' :=
 (Tryz.strings_HasPrefix s ⟨#[48]⟩ w).mono fun e w' ⟨h1,h2⟩=>⟨by rw [h1,←h];exact congrArg _ (congrArg _ (zSl _)),h2.symm⟩
theorem hex8 (s:ByteArray) (a b:Int) (w:World) (hm:s.size≤1000000) (h:hexI s.data.toList=(a,b)) (hE:Ev w) :
 Calls prog 245 #[.string s] w fun e w'=>e=.returned (.tuple #[.int .i64 a,.int .i64 b])∧Below w.heap.size w w':=by
 have hl:s.data.toList.length=s.size:=zAV s;have HE:=hI hE;unfold hexI at h
 by_cases h6:6 < s.size
 · rw [zGG (.inr (.inl (by omega)))] at h
   obtain ⟨rfl,rfl⟩:(0:Int)=a∧(80:Int)=b:=by cases h;exact ⟨rfl,rfl⟩
   have d0:decide ((6:Int) < (s.size:Int))=true:=by simp;omega
   clear h hE hl
   go_enter func245,ntmps245
   go_wp2_with fail
   go_ret2
   exact ⟨rfl,Below.refl _ _⟩
 · have d0:decide ((6:Int) < (s.size:Int))=false:=by simp;omega
   by_cases h48:s.data.toList.head?=some 48
   · rw [zGG (.inr (.inr h48))] at h
     obtain ⟨rfl,rfl⟩:(0:Int)=a∧(80:Int)=b:=by cases h;exact ⟨rfl,rfl⟩
     have HP:Hid (decide (s.data.toList.head?=some 48)=true):=hI (decide_eq_true h48);have b6:(s.size:Int)≤6:=by omega
     clear h hE hl h48 h6
     go_enter func245,ntmps245
     go_wp2_with (first
      | (go_at_call 115;(with_reducible refine (hp48 s true w HP.out).mono ?_);rintro e w1 ⟨rfl,rfl⟩)
      | fail)
     go_ret2
     exact ⟨rfl,Below.refl _ _⟩
   · rw [zRk (by omega) h48] at h
     have HP:Hid (decide (s.data.toList.head?=some 48)=false):=hI (decide_eq_false h48);have b6:(s.size:Int)≤6:=by omega
     have H6:Hid (s.size≤6):=hI (by omega)
     cases ho:hexO s.data.toList with
     | none =>
      rw [ho] at h;obtain ⟨rfl,rfl⟩:(0:Int)=a∧(80:Int)=b:=by cases h;exact ⟨rfl,rfl⟩
      have HO:=hI ho;clear h hE hl h48 h6 ho
      go_enter func245,ntmps245
      go_wp2_with (first
       | (go_at_call 115;(with_reducible refine (hp48 s false w HP.out).mono ?_);rintro e w1 ⟨rfl,rfl⟩)
       | (go_at_call 260;(with_reducible refine (zP8 s w H6.out HO.out HE.out).mono ?_);rintro e w2 ⟨⟨v,rfl⟩,hb2⟩)
       | fail)
      go_ret2
      exact ⟨rfl,hb2⟩
     | some n =>
      rw [ho] at h;have hn:=zQz ho (by omega);obtain ⟨rfl,rfl⟩:(n:Int)=a∧(0:Int)=b:=by cases h;exact ⟨rfl,rfl⟩
      have HO:=hI ho;have bn:IntKind.i64.wrap (n:Int)=(n:Int):=IntWalk.i64_in _ (by omega);clear h hE hl h48 h6 ho hn
      go_enter func245,ntmps245
      go_wp2_with (first
       | (go_at_call 115;(with_reducible refine (hp48 s false w HP.out).mono ?_);rintro e w1 ⟨rfl,rfl⟩)
       | (go_at_call 260;(with_reducible refine (zQB s n w H6.out HO.out).mono ?_);rintro e w2 ⟨rfl,hb2⟩)
       | fail)
      go_ret2
      exact ⟨rfl,hb2⟩
def sgV (l:List UInt8) (q:Bool):Value:=.agg #[.string ⟨l.toArray⟩,.bool q]
def sgK (c:Int):Value:=.int .u8 c
def SG:Array MapEntry:=#[⟨sgK 38,sgV [38,97,109,112,59] false,0⟩,⟨sgK 60,sgV [38,108,116,59] false,1⟩,⟨sgK 62,sgV [38,103,116,59] false,2⟩,⟨sgK 13,sgV [38,35,49,51,59] false,3⟩,
 ⟨sgK 34,sgV [38,113,117,111,116,59] true,4⟩,⟨sgK 9,sgV [38,35,57,59] true,5⟩,⟨sgK 10,sgV [38,35,49,48,59] true,6⟩]
theorem zPX (c:Int):MapKept.IsKey (.int .u8) (.int .u8 c):=by simp [MapKept.IsKey]
theorem zRY (w:World) :
 Calls prog 217 #[] w fun e w'=>e=.returned (.map (some w.heap.size))∧w'=w.alloc (.map SG 7):=by
 have hmm:=@run_makeMap prog
 go_enter func217,ntmps217
 go_wp2_with (refine zCA rfl _ _ _ _ rfl rfl rfl rfl (zLL (w:=w) underlying238 underlying5 (zPX _) rfl) ?_)
 go_ret
 exact ⟨rfl,rfl⟩
def sgT (c:UInt8):ByteArray × Bool × Bool :=
 if c=38 then (⟨#[38,97,109,112,59]⟩,false,true) else if c=60 then (⟨#[38,108,116,59]⟩,false,true) else if c=62 then (⟨#[38,103,116,59]⟩,false,true) else if c=13 then (⟨#[38,35,49,51,59]⟩,false,true)
 else if c=34 then (⟨#[38,113,117,111,116,59]⟩,true,true) else if c=9 then (⟨#[38,35,57,59]⟩,true,true) else if c=10 then (⟨#[38,35,49,48,59]⟩,true,true) else (⟨#[]⟩,false,false)
theorem zOX (c:UInt8) (q:Bool):escb q c=if (sgT c).2.2&&(q|| !(sgT c).2.1) then (sgT c).1.data.toList else [c]:=by
 cases q
 · exact zA4 (fun c=>escb false c=if (sgT c).2.2&&(false|| !(sgT c).2.1) then (sgT c).1.data.toList else [c]) (by decide +kernel) c
 · exact zA4 (fun c=>escb true c=if (sgT c).2.2&&(true|| !(sgT c).2.1) then (sgT c).1.data.toList else [c]) (by decide +kernel) c
def sgF (c:UInt8):Option (Nat × Value) :=
 if c=38 then some (0,sgV [38,97,109,112,59] false) else if c=60 then some (1,sgV [38,108,116,59] false) else if c=62 then some (2,sgV [38,103,116,59] false) else if c=13 then some (3,sgV [38,35,49,51,59] false)
 else if c=34 then some (4,sgV [38,113,117,111,116,59] true) else if c=9 then some (5,sgV [38,35,57,59] true) else if c=10 then some (6,sgV [38,35,49,48,59] true) else none
theorem zQh (c:UInt8) (n:Nat) (hn:n < 256):((c.toNat:Int)==(n:Int))=decide (c=UInt8.ofNat n):=by
 rw [Bool.eq_iff_iff,beq_iff_eq,decide_eq_true_eq]
 constructor
 · intro h
   have h:c.toNat=n:=by omega
   apply UInt8.toNat_inj.1;rw [h]
   simp
   omega
 · intro h
   rw [h]
   simp
   omega
theorem zEo (c:UInt8) (n:Nat) (hn:n < 256) (v:Value) (b:Nat) (l:List MapEntry) (i:Nat) :
 Instr.findNow (.int .u8) (.int .u8 (c.toNat:Int)) (⟨sgK n,v,b⟩::l) i=if c=UInt8.ofNat n then some (some (i,v)) else Instr.findNow (.int .u8) (.int .u8 (c.toNat:Int)) l (i+1):=by
 rw [Instr.findNow];show (match (if IntKind.u8=IntKind.u8 then some ((c.toNat:Int)==(n:Int)) else none) with | some true=>_ | some false=>_ | none=>_)=_;rw [if_pos rfl,zQh c n hn]
 by_cases h:c=UInt8.ofNat n
 · rw [if_pos h,decide_eq_true h]
 · rw [if_neg h,decide_eq_false h]
theorem zQ9 (c:UInt8):Instr.findNow (.int .u8) (.int .u8 (c.toNat:Int)) SG.toList 0=some (sgF c):=by
 show Instr.findNow (.int .u8) (.int .u8 (c.toNat:Int)) [⟨sgK (38:Nat),_,0⟩,⟨sgK (60:Nat),_,1⟩,⟨sgK (62:Nat),_,2⟩,⟨sgK (13:Nat),_,3⟩,⟨sgK (34:Nat),_,4⟩,⟨sgK (9:Nat),_,5⟩,⟨sgK (10:Nat),_,6⟩] 0=_;rw [zEo c 38 (by decide),zEo c 60 (by decide),zEo c 62 (by decide),zEo c 13 (by decide),zEo c 34 (by decide),zEo c 9 (by decide),zEo c 10 (by decide)];unfold sgF;show (if c=38 then _ else if c=60 then _ else if c=62 then _ else if c=13 then _ else if c=34 then _ else if c=9 then _ else if c=10 then _ else _)=_
 split
 · rfl
 split
 · rfl
 split
 · rfl
 split
 · rfl
 split
 · rfl
 split
 · rfl
 split
 · rfl
 · rfl
theorem zSK (c:UInt8):zNr (sgV [] false) (sgF c)=.tuple #[.agg #[.string (sgT c).1,.bool (sgT c).2.1],.bool (sgT c).2.2]:=by
 unfold sgF sgT
 split
 · rfl
 split
 · rfl
 split
 · rfl
 split
 · rfl
 split
 · rfl
 split
 · rfl
 split
 · rfl
 · rfl
theorem zMQ (w:World):(zeroValue 241).run prog w=.ok (sgV [] false) w:=by kernel_rfl
theorem zSU (c:UInt8) (w:World) (b:Nat) (hb:w.heap[b]?=some (.map SG 7)) :
 (Instr.lookup 238 (.map (some b)) (.int .u8 (c.toNat:Int)) true).run prog w=.ok (.tuple #[.agg #[.string (sgT c).1,.bool (sgT c).2.1],.bool (sgT c).2.2]) w:=by
 rw [zJR underlying238 underlying5 (zPX _) hb rfl (zMQ w) (zQ9 c),zSK]
end Hx
namespace Hx
open Nmb
theorem zNR (a b:List UInt8):val a≤val (a++b):=by
 have gen:∀(r:List UInt8) (x:Nat),x≤r.foldl (fun n b=>10*n+(b.toNat - 48)) x:=by
  intro r
  induction r with
  | nil=>exact fun x=>Nat.le_refl _
  | cons c r ih=>exact fun x=>Nat.le_trans (show x≤10*x+(c.toNat - 48) by omega) (ih _)
 unfold val;rw [List.foldl_append];exact gen b _
theorem zOW (l:List UInt8) (k:Nat):val (l.take k)≤val l:=by
 have:=zNR (l.take k) (l.drop k)
 rwa [List.take_append_drop] at this
theorem zFj (l:List UInt8) (k:Nat) (h:k < l.length) (h2:isDg (l[k]'h)=false):zDZ l=none:=by
 unfold zDZ okN;rw [zPA l k h h2]
 simp
theorem zKp (l:List UInt8) (k:Nat) (h:k < l.length) (h0:0 < k) (ha:(l.take k).all isDg=true) (hv:val (l.take k)=0):zDZ l=none:=by
 have hn:l.take k≠[]:=by
  intro e;have:=congrArg List.length e;rw [List.length_take,List.length_nil] at this
  omega
 by_cases hf:(l.take k).head?=some 48
 · have hl:l.head?=some 48:=by
    rw [←zEV (r:=l.drop k) hn,List.take_append_drop] at hf;exact hf
   have hlen:(l.length==1)=false:=by simp;omega
   unfold zDZ okN;rw [hl,hlen]
   simp
 · have:=zNc (l.take k) ha hn hf
   omega
theorem zE6 (l:List UInt8) (k:Nat) (h:most < val (l.take k)):zDZ l=none:=by
 unfold zDZ;have:=zOW l k;rw [if_neg];rw [Bool.and_eq_true,decide_eq_true_eq]
 omega
def okP (l:List UInt8) (k:Nat):Prop:=(l.take k).all isDg=true∧val (l.take k)≤most∧(2≤k→(l.take k).head?≠some 48)
theorem zJT (l:List UInt8) (k:Nat) (h:k < l.length) (h1:okP l k) (hd:isDg (l[k]'h)=true) (h2:k=0∨val (l.take k)≠0) (h3:val (l.take (k+1))≤most):okP l (k+1):=by
 refine ⟨?_,h3,fun hk=>?_⟩
 · rw [List.take_succ_eq_append_getElem h,List.all_append,h1.1]
   simp [hd]
 · have hn:l.take k≠[]:=by
    intro e;have:=congrArg List.length e;rw [List.length_take,List.length_nil] at this
    omega
   rw [List.take_succ_eq_append_getElem h,zEV hn]
   by_cases hk2:2≤k
   · exact h1.2.2 hk2
   · obtain rfl:k=1:=by omega
     intro e;apply h2.resolve_left (by omega)
     cases l with
     | nil=>simp at h
     | cons b r =>
      simp only [List.take_succ_cons,List.take_zero,List.head?_cons,Option.some.injEq] at e ⊢;subst e
      rfl
theorem zQc (l:List UInt8) (h0:0 < l.length) (h:okP l l.length):zDZ l=some (val l):=by
 obtain ⟨h1,h2,h3⟩:=h;rw [List.take_of_length_le (Nat.le_refl _)] at h1 h2 h3;unfold zDZ okN;rw [if_pos];rw [Bool.and_eq_true,decide_eq_true_eq];refine ⟨?_,h2⟩;rw [h1];have hn:l.isEmpty=false:=by rw [List.isEmpty_eq_false_iff];intro e;rw [e] at h0;simp at h0
 rw [hn]
 by_cases hl:l.length=1
 · simp [hl]
 · have:=h3 (by omega)
   simp [this]
theorem zST (s:ByteArray) (w:World) (hm:s.size≤1000000) (a b:Int) (h:zFO s.data.toList=(a,b)) :
 Calls prog 246 #[.string s] w fun e w'=>e=.returned (.tuple #[.int .i64 a,.int .i64 b])∧Below w.heap.size w w':=by
 have hempty:s.toList.isEmpty=decide (s.size=0):=by
  rw [ByteArray.toList_eq,Bool.eq_iff_iff,List.isEmpty_iff,decide_eq_true_eq,←zEj]
  constructor
  · intro e;rw [e];rfl
  · exact List.eq_nil_of_length_eq_zero
 obtain ⟨ie,his⟩:∃ie,decide (s.size=0)=ie:=⟨_,rfl⟩;rw [his] at hempty;have HIS:=hI his;have HH:=hI h;have HM:=hI hm;clear his h hm
 go_enter func246,ntmps246
 go_wp2_with fail
 go_step3
 go_wp2_with fail
 go_step3
 go_wp2_with fail
 go_loopw [12,4,5] (fun i n x wr=>∃k:Nat,k≤s.size∧i=.int .i64 k∧n=.int .i64 (val (s.data.toList.take k):Nat)∧x=.bool (!ie)∧okP s.data.toList k∧Below w.heap.size w wr) (fun i _ _ _=>s.size - (intOf i).toNat)
 case atStart=>exact ⟨0,Nat.zero_le _,rfl,rfl,rfl,⟨rfl,Nat.zero_le _,fun h=>absurd h (by omega)⟩,Below.refl _ _⟩
 case round =>
  obtain ⟨k,hk,rfl,rfl,rfl,hok,hbw⟩:=hrel;have hs:=HM.out
  by_cases hlt:k < s.size
  · obtain rfl:false=ie:=by rw [←HIS.out,decide_eq_false (by omega)]
    obtain ⟨m,hm⟩:∃m,val (s.data.toList.take k)=m:=⟨_,rfl⟩;have hml:m≤9007199254740991:=by have:=hok.2.1;unfold most at this;omega
    obtain ⟨c,hc⟩:∃c,s[k]'hlt=c:=⟨_,rfl⟩;have hca:∀h,s[k]'h=c:=fun _=>hc
    have hcl:=c.toNat_lt;have hkl:k < s.data.toList.length:=by rw [zEj];exact hlt
    have hck:s.data.toList[k]'hkl=c:=(at6 s k hlt).trans hc;have bk:(0:Int)≤(k:Int)∧(k:Int) < (s.size:Int):=by omega
    have HBW:=hI hbw;have hm2:=hm;rw [hm]
    by_cases h1:c.toNat < 48
    · have d1:decide ((c.toNat:Int) < 48)=true:=by simp;omega
      have HX:=hI (zFj s.data.toList k hkl (by rw [hck];simp [isDg];omega))
      obtain ⟨rfl,rfl⟩:0=a∧60=b:=by
       have h:=HH.out;unfold zFO at h;rw [HX.out] at h;exact (Prod.mk.injEq _ _ _ _).mp h
      clear hck hok hbw hm2 hm hc HH
      go_wp2_with fail
      rw [Exit.noGoto_ret]
      go_ret2
      exact ⟨rfl,HBW.out⟩
    · by_cases h2:57 < c.toNat
      · have d1:decide ((c.toNat:Int) < 48)=false:=by simp;omega
        have d2:decide ((57:Int) < (c.toNat:Int))=true:=by simp;omega
        have HX:=hI (zFj s.data.toList k hkl (by rw [hck];simp [isDg];omega))
        obtain ⟨rfl,rfl⟩:0=a∧60=b:=by
         have h:=HH.out;unfold zFO at h;rw [HX.out] at h;exact (Prod.mk.injEq _ _ _ _).mp h
        clear hck hok hbw hm2 hm hc HH
        go_wp2_with fail
        rw [Exit.noGoto_ret]
        go_ret2
        exact ⟨rfl,HBW.out⟩
      · have d1:decide ((c.toNat:Int) < 48)=false:=by simp;omega
        have d2:decide ((57:Int) < (c.toNat:Int))=false:=by simp;omega
        by_cases h0:0 < k
        · by_cases h3:m=0
          · subst h3
            have HX:=hI (zKp s.data.toList k hkl h0 hok.1 hm)
            obtain ⟨rfl,rfl⟩:0=a∧60=b:=by
             have h:=HH.out;unfold zFO at h;rw [HX.out] at h;exact (Prod.mk.injEq _ _ _ _).mp h
            clear hck hok hbw hm2 hm hc HH
            go_wp2_with fail
            rw [Exit.noGoto_ret]
            go_ret2
            exact ⟨rfl,HBW.out⟩
          · have d4:((m:Int)==0)=false:=by simp;omega
            have hv:val (s.data.toList.take (k+1))=10*m+(c.toNat - 48):=by rw [List.take_succ_eq_append_getElem hkl,hck,zDf,hm]
            by_cases h5:(9007199254740991 - ((c.toNat:Int) - 48)) / 10 < (m:Int)
            · have d5:decide ((9007199254740991 - ((c.toNat:Int) - 48)) / 10 < (m:Int))=true:=by simpa using h5
              have HX:=hI (zE6 s.data.toList (k+1) (by rw [hv];unfold most;omega))
              obtain ⟨rfl,rfl⟩:0=a∧60=b:=by
               have h:=HH.out;unfold zFO at h;rw [HX.out] at h;exact (Prod.mk.injEq _ _ _ _).mp h
              clear hck hok hbw hm2 hm hc HH hv h5
              go_wp2_with fail
              rw [Exit.noGoto_ret]
              go_ret2
              exact ⟨rfl,HBW.out⟩
            · have d5:decide ((9007199254740991 - ((c.toNat:Int) - 48)) / 10 < (m:Int))=false:=by simpa using h5
              have HK:=hI (zJT s.data.toList k hkl hok (by rw [hck];simp [isDg];omega) (Or.inr (by omega)) (by rw [hv];unfold most;omega));have bm:(0:Int)≤10*(m:Int)+((c.toNat:Int) - 48)∧10*(m:Int)+((c.toNat:Int) - 48)≤9007199254740991:=by omega
              have HV:Hid (((val (s.data.toList.take (k+1)):Nat):Int)=10*(m:Int)+((c.toNat:Int) - 48)):=hI (by rw [hv];omega);clear hck hok hbw hm2 hm hc hv h5
              go_wp2_with fail
              go_roundw
              case rel=>exact ⟨k+1,hlt,by go_num,by rw [HV.out],rfl,HK.out,HBW.out⟩
              case measure=>simp [intOf];omega
        · have hk0:k=0:=by omega
          have HK0:=hI hk0;clear hk0;have hv:val (s.data.toList.take (k+1))=10*m+(c.toNat - 48):=by rw [List.take_succ_eq_append_getElem hkl,hck,zDf,hm]
          by_cases h5:(9007199254740991 - ((c.toNat:Int) - 48)) / 10 < (m:Int)
          · have d5:decide ((9007199254740991 - ((c.toNat:Int) - 48)) / 10 < (m:Int))=true:=by simpa using h5
            have HX:=hI (zE6 s.data.toList (k+1) (by rw [hv];unfold most;omega))
            obtain ⟨rfl,rfl⟩:0=a∧60=b:=by
             have h:=HH.out;unfold zFO at h;rw [HX.out] at h;exact (Prod.mk.injEq _ _ _ _).mp h
            clear hck hok hbw hm2 hm hc HH hv h5
            go_wp2_with fail
            rw [Exit.noGoto_ret]
            go_ret2
            exact ⟨rfl,HBW.out⟩
          · have d5:decide ((9007199254740991 - ((c.toNat:Int) - 48)) / 10 < (m:Int))=false:=by simpa using h5
            have HK:=hI (zJT s.data.toList k hkl hok (by rw [hck];simp [isDg];omega) (Or.inl HK0.out) (by rw [hv];unfold most;omega));have bm:(0:Int)≤10*(m:Int)+((c.toNat:Int) - 48)∧10*(m:Int)+((c.toNat:Int) - 48)≤9007199254740991:=by omega
            have HV:Hid (((val (s.data.toList.take (k+1)):Nat):Int)=10*(m:Int)+((c.toNat:Int) - 48)):=hI (by rw [hv];omega);clear hck hok hbw hm2 hm hc hv h5
            go_wp2_with fail
            go_roundw
            case rel=>exact ⟨k+1,hlt,by go_num,by rw [HV.out],rfl,HK.out,HBW.out⟩
            case measure=>simp [intOf];omega
  · obtain rfl:k=s.size:=by omega
    have h:=HH.out;unfold zFO at h
    cases ie
    · have h0:=of_decide_eq_false HIS.out
      have hl:=zEj s;rw [zQc s.data.toList (by omega) (by rw [hl];exact hok)] at h;obtain ⟨hv,rfl⟩:(val s.data.toList:Int)=a∧0=b:=(Prod.mk.injEq _ _ _ _).mp h;have he:s.data.toList.take s.size=s.data.toList:=List.take_of_length_le (by omega);rw [he,hv];clear hok h HH hv he
      go_wp2_with fail
      rw [Exit.noGoto_ret]
      go_ret2
      exact ⟨rfl,hbw⟩
    · have h0:=of_decide_eq_true HIS.out
      have hl:=zEj s;have hn:s.data.toList=[]:=List.eq_nil_of_length_eq_zero (by omega);rw [hn] at h;obtain ⟨rfl,rfl⟩:0=a∧60=b:=(Prod.mk.injEq _ _ _ _).mp h;clear hok h HH hn hl
      go_wp2_with fail
      rw [Exit.noGoto_ret]
      go_ret2
      exact ⟨rfl,hbw⟩
end Hx
end Go.Proofs.YtlgppednjkbgiaaGreatDoor
