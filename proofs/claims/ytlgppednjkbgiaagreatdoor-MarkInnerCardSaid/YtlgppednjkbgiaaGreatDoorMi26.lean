/- Texts put together. -/
import Derived.Test.YtlgppednjkbgiaaGreatDoorMiA
import Derived.Test.YtlgppednjkbgiaaGreatDoorMi25
import Derived.Test.YtlgppednjkbgiaaGreatDoorMi24
import Derived.Test.YtlgppednjkbgiaaGreatDoorMi23
import Derived.Test.YtlgppednjkbgiaaGreatDoorMi15
import Derived.Test.YtlgppednjkbgiaaGreatDoorMi05
set_option maxRecDepth 100000
set_option maxHeartbeats 16000000
set_option linter.unusedVariables false
set_option linter.unusedSimpArgs false
namespace Go.Proofs.YtlgppednjkbgiaaGreatDoor
open Go.RowKit Go.Proofs.Tryz
namespace Hx
open Lx Tr Tx Nmb Es Ns
theorem zI3 (w0:World) (hE:EvE w0) (B R:Nat) (hB:w0.heap.size<=B) (S0 S1 S2 S3 S4 S5 S6:World->Prop) (w:World) (N0:Hid (Mkx w0 B R (zAC B) S0 w)) (H1:Hid (zAP w0 B R (zAC B) 66 (.nilIface) S0 S1)) (H2:Hid (zAP w0 B R (zAC B) 67 (.nilIface) S1 S2)) (H3:Hid (zAP w0 B R (zAC B) 68 (.nilIface) S2 S3)) (H4:Hid (zAP w0 B R (zAC B) 63 (.nilIface) S3 S4)) (H5:Hid (zAP w0 B R (zAC B) 64 (.nilIface) S4 S5)) (H6:Hid (zAP w0 B R (zAC B) 65 (.nilIface) S5 S6)) :
 Calls prog 62 #[.slice (some ⟨R,0,none⟩) 6 6] w λe w'=>e=.returned (.int .i64 0)/\S6 w'∧Below w0.heap.size w0 w':=by
 have HBB:=hI hB;have kr0:=zAA w R 0 _ _ _ N0.out.row;unfold zAC at kr0;clear hB
 go_enter func62,ntmps62
 go_wp2_with fail
 refine wp_loop_rounds 7 ?_;rw [rounds_succ]
 go_wp2_with (first
  | (go_at_call 66;(with_reducible refine (H1.out.go w N0.out).mono ?_);rintro e1 w1 ⟨rfl,n1,x1⟩;have N1:=hI n1;have kr1:=zAA w1 R 1 _ _ _ n1.row;unfold zAC at kr1;clear n1 x1)
  | (go_at_call 99;(with_reducible refine (zAo _ _).mono ?_);rintro e7 w7 ⟨rfl,h7⟩;subst w7)
  | fail)
 rw [rounds_succ]
 go_wp2_with (first
  | (go_at_call 67;(with_reducible refine (H2.out.go w1 N1.out).mono ?_);rintro e2 w2 ⟨rfl,n2,x2⟩;have N2:=hI n2;have kr2:=zAA w2 R 2 _ _ _ n2.row;unfold zAC at kr2;clear n2 x2)
  | (go_at_call 99;(with_reducible refine (zAo _ _).mono ?_);rintro e7 w7 ⟨rfl,h7⟩;subst w7)
  | fail)
 rw [rounds_succ]
 go_wp2_with (first
  | (go_at_call 68;(with_reducible refine (H3.out.go w2 N2.out).mono ?_);rintro e3 w3 ⟨rfl,n3,x3⟩;have N3:=hI n3;have kr3:=zAA w3 R 3 _ _ _ n3.row;unfold zAC at kr3;clear n3 x3)
  | (go_at_call 99;(with_reducible refine (zAo _ _).mono ?_);rintro e7 w7 ⟨rfl,h7⟩;subst w7)
  | fail)
 rw [rounds_succ]
 go_wp2_with (first
  | (go_at_call 63;(with_reducible refine (H4.out.go w3 N3.out).mono ?_);rintro e4 w4 ⟨rfl,n4,x4⟩;have N4:=hI n4;have kr4:=zAA w4 R 4 _ _ _ n4.row;unfold zAC at kr4;clear n4 x4)
  | (go_at_call 99;(with_reducible refine (zAo _ _).mono ?_);rintro e7 w7 ⟨rfl,h7⟩;subst w7)
  | fail)
 rw [rounds_succ]
 go_wp2_with (first
  | (go_at_call 64;(with_reducible refine (H5.out.go w4 N4.out).mono ?_);rintro e5 w5 ⟨rfl,n5,x5⟩;have N5:=hI n5;have kr5:=zAA w5 R 5 _ _ _ n5.row;unfold zAC at kr5;clear n5 x5)
  | (go_at_call 99;(with_reducible refine (zAo _ _).mono ?_);rintro e7 w7 ⟨rfl,h7⟩;subst w7)
  | fail)
 rw [rounds_succ]
 go_wp2_with (first
  | (go_at_call 65;(with_reducible refine (H6.out.go w5 N5.out).mono ?_);rintro e6 w6 ⟨rfl,n6,x6⟩;have N6:=hI n6;clear n6 x6)
  | (go_at_call 99;(with_reducible refine (zAo _ _).mono ?_);rintro e7 w7 ⟨rfl,h7⟩;subst w7)
  | fail)
 rw [rounds_succ]
 go_wp2_with fail
 go_ret
 exact ⟨rfl,N6.out.st,N6.out.bel⟩
theorem zJX {v x:List Nd} {o:List UInt8} {e:Int} (h:zB5 v o=(x,e)) (hs:v.length<=512->∀m∈v,zA5 900000 m):x.length<=512/\∀m∈x,zAV m:=by
 unfold zB5 at h
 split at h
 · rename_i hc
   split at h
   · rename_i hw
     have hx:=((Prod.mk.injEq _ _ _ _).mp h).1;obtain ⟨hQ,hv⟩:=zC3.1 hc.1;have h5:=(zAj.1 hv).1;have hl:=(zEk zDC hv hQ trivial hw).2.1;refine ⟨?_,λm hm=>?_⟩
     · have:(zCq v o).1.1.length=v.length:=hl
       rw [←hx,this];exact h5
     · rw [←hx] at hm
       exact zFh (by decide) o (hs h5) m hm
   · rw [←((Prod.mk.injEq _ _ _ _).mp h).1]
     exact ⟨Nat.zero_le _,λm hm=>by cases hm⟩
 · rw [←((Prod.mk.injEq _ _ _ _).mp h).1]
   exact ⟨Nat.zero_le _,λm hm=>by cases hm⟩
theorem zM6 (w0:World) (p_EE:EvE w0) (B R:Nat) (v:List Nd) (o:ByteArray) (w:World) (hb0:Below w0.heap.size w0 w) (hB:w0.heap.size<=B) (hp:TrB B o v w) (hR:w.heap[R]?=some (.cells (zAL B) 87 (0,0))) (hRB:R≠B) (hv1:v.length<=9223372036854775807) (hv2:v.length<=512->∀m∈v,zA5 900000 m) (p_o:o.size<=1000000) (p_T:TbH w0) (y:ByteArray) (z:Int) (h:zBS v o.data.toList=(y.data.toList,z)) :
 Calls prog 62 #[.slice (some ⟨R,0,none⟩) 3 3] w λe w'=>e=.returned (.int .i64 z)/\(z=0->TxB B y o w')/\Below w0.heap.size w0 w':=by
 obtain ⟨x,ze,hx⟩:∃x ze,zB5 v o.data.toList=(x,ze):=⟨_,_,rfl⟩;obtain ⟨hx1,hx2⟩:=zJX hx hv2;have N0:Hid (Mkx w0 B R (zAL B) (TrB B o v) w):=hI ⟨hb0,hp,hR,hp.lt⟩
 by_cases h0:ze=0
 · subst h0
   have H1:Hid (zAP w0 B R (zAL B) 63 .nilIface (TrB B o v) (TrB B o x)):=hI (zBI (λ_ _ h hb=>h.on hb) hRB hB λW hW hs=>zJW B o v W hs hv1 hv2 p_o x 0 hx (p_T.to hW));obtain ⟨tt,zf,ht⟩:∃tt zf,zAw x=(tt,zf):=⟨_,_,rfl⟩;rw [zD5 hx ht] at h
   by_cases hf:zf=0
   · subst hf
     have H2:Hid (zAP w0 B R (zAL B) 64 .nilIface (TrB B o x) (TkB B o tt)):=hI (zBI (λ_ _ h hb=>h.on hb) hRB hB λW hW hs=>zGe B o x W hs (by omega) (λ_=>hx2) tt 0 ht);rw [if_pos rfl] at h;obtain ⟨ht1,ht2⟩:=zFy ht hx2
     by_cases hz:z=0
     · subst hz
       have H3:Hid (zAP w0 B R (zAL B) 65 .nilIface (TkB B o tt) (TxB B y o)):=hI (zBI (λ_ _ h hb=>h.on hb) hRB hB λW hW hs=>zJs B o tt W hs ht1 ht2 y 0 h);exact (zI7 w0 p_EE B R hB _ _ _ _ w N0 H1 H2 H3).mono λe w' h=>⟨h.1,λ_=>h.2.1,h.2.2⟩
     · have H3:Hid (zAP w0 B R (zAL B) 65 (.iface 25 (.int .i64 z)) (TkB B o tt) (TxB B y o)):=hI (zBI (λ_ _ h hb=>h.on hb) hRB hB λW hW hs=>by have hc9:=zJs B o tt W hs ht1 ht2 y z h;rw [zCS hz] at hc9;exact hc9)
       exact (zI6 w0 p_EE B R hB z _ _ _ _ w N0 H1 H2 H3).mono λe w' h=>⟨h.1,λh9=>absurd h9 hz,h.2⟩
   · have H2:Hid (zAP w0 B R (zAL B) 64 (.iface 25 (.int .i64 zf)) (TrB B o x) (TkB B o tt)):=hI (zBI (λ_ _ h hb=>h.on hb) hRB hB λW hW hs=>by have hc9:=zGe B o x W hs (by omega) (λ_=>hx2) tt zf ht;rw [zCS hf] at hc9;exact hc9)
     rw [if_neg hf] at h;obtain rfl:=((Prod.mk.injEq _ _ _ _).mp h).2;exact (zI5 w0 p_EE B R hB _ _ _ _ w N0 H1 H2).mono λe w' h=>⟨h.1,λh9=>absurd h9 hf,h.2⟩
 · have H1:Hid (zAP w0 B R (zAL B) 63 (.iface 25 (.int .i64 ze)) (TrB B o v) (TrB B o x)):=hI (zBI (λ_ _ h hb=>h.on hb) hRB hB λW hW hs=>by have hc9:=zJW B o v W hs hv1 hv2 p_o x ze hx (p_T.to hW);rw [zCS h0] at hc9;exact hc9)
   rw [zBw hx,if_neg h0] at h;obtain rfl:=((Prod.mk.injEq _ _ _ _).mp h).2;exact (zI4 w0 p_EE B R hB _ _ _ w N0 H1).mono λe w' h=>⟨h.1,λh9=>absurd h9 h0,h.2⟩
theorem zM4 (w0:World) (p_EE:EvE w0) (B R:Nat) (s:ByteArray) (w:World) (hb0:Below w0.heap.size w0 w) (hB:w0.heap.size<=B) (hp:TxB B s ⟨#[]⟩ w) (hR:w.heap[R]?=some (.cells (zAC B) 87 (0,0))) (hRB:R≠B) (p_s:s.size<=1000000) (p_E:Ev9 w0) (p_T:TbH w0) (y:ByteArray) (z:Int) (h:zCv s.data.toList=(y.data.toList,z)) :
 Calls prog 62 #[.slice (some ⟨R,0,none⟩) 6 6] w λe w'=>e=.returned (.int .i64 z)/\(z=0->TxB B y ⟨#[]⟩ w')/\Below w0.heap.size w0 w':=by
 have p_o:(⟨#[]⟩:ByteArray).size<=1000000:=by decide
 obtain ⟨ts,kk,er,hl⟩:∃ts kk er,lexR s.data.toList=(ts,kk,er):=⟨_,_,_,rfl⟩;have hrd:=zFv hl;obtain ⟨hl1,hl2⟩:=zMH hl;have N0:Hid (Mkx w0 B R (zAC B) (TxB B s ⟨#[]⟩) w):=hI ⟨hb0,hp,hR,hp.lt⟩
 by_cases h0:er=0
 · subst h0
   have H1:Hid (zAP w0 B R (zAC B) 66 .nilIface (TxB B s ⟨#[]⟩) (TkB B ⟨#[]⟩ ts)):=hI (zBI (λ_ _ h hb=>h.on hb) hRB hB λW hW hs=>zRW B s ⟨#[]⟩ W hs p_s ts kk 0 hl (p_E.to hW));rw [if_pos rfl] at hrd;obtain ⟨r,q,hp1⟩:∃r q,zBO ts=(r,q):=⟨_,_,rfl⟩;rw [hp1] at hrd;have hrr:=zFD hrd
   by_cases hq:q=0
   · subst hq
     have H2:Hid (zAP w0 B R (zAC B) 67 .nilIface (TkB B ⟨#[]⟩ ts) (TrB B ⟨#[]⟩ r)):=hI (zBI (λ_ _ h hb=>h.on hb) hRB hB λW hW hs=>zMe B ⟨#[]⟩ ts W hs hl1 (λt ht=>(hl2 t ht).to (by decide)) r 0 hp1);rw [if_pos rfl] at hrr;have hr1:=zFt hp1;have hr2:∀m∈r,zA5 900000 m:=λm hm=>(zHV hp1 hl2 m hm).up (by decide)
     obtain ⟨v,zv,hv⟩:∃v zv,zA7 r=(v,zv):=⟨_,_,rfl⟩;rw [hv] at hrr;rw [zD4 hrr] at h
     by_cases hzv:zv=0
     · subst hzv
       have H3:Hid (zAP w0 B R (zAC B) 68 .nilIface (TrB B ⟨#[]⟩ r) (TrB B ⟨#[]⟩ v)):=hI (zBI (λ_ _ h hb=>h.on hb) hRB hB λW hW hs=>zHf B ⟨#[]⟩ r W hs hr1 hr2 v 0 hv);rw [if_pos rfl] at h;obtain ⟨hv0,hv3⟩:=zMU hrr;have hv1:v.length<=9223372036854775807:=by omega
       have hv2:v.length<=512->∀m∈v,zA5 900000 m:=λ_ m hm=>(hv3 m hm).up (by decide)
       obtain ⟨x,ze,hx⟩:∃x ze,zB5 v (⟨#[]⟩:ByteArray).data.toList=(x,ze):=⟨_,_,rfl⟩;obtain ⟨hx1,hx2⟩:=zJX hx hv2
       by_cases h1:ze=0
       · subst h1
         have H4:Hid (zAP w0 B R (zAC B) 63 .nilIface (TrB B ⟨#[]⟩ v) (TrB B ⟨#[]⟩ x)):=hI (zBI (λ_ _ h hb=>h.on hb) hRB hB λW hW hs=>zJW B ⟨#[]⟩ v W hs hv1 hv2 p_o x 0 hx (p_T.to hW));obtain ⟨tt,zf,ht⟩:∃tt zf,zAw x=(tt,zf):=⟨_,_,rfl⟩;have h:=(zD5 hx ht).symm.trans h
         by_cases hf:zf=0
         · subst hf
           have H5:Hid (zAP w0 B R (zAC B) 64 .nilIface (TrB B ⟨#[]⟩ x) (TkB B ⟨#[]⟩ tt)):=hI (zBI (λ_ _ h hb=>h.on hb) hRB hB λW hW hs=>zGe B ⟨#[]⟩ x W hs (by omega) (λ_=>hx2) tt 0 ht);rw [if_pos rfl] at h;obtain ⟨ht1,ht2⟩:=zFy ht hx2
           by_cases hz:z=0
           · subst hz
             have H6:Hid (zAP w0 B R (zAC B) 65 .nilIface (TkB B ⟨#[]⟩ tt) (TxB B y ⟨#[]⟩)):=hI (zBI (λ_ _ h hb=>h.on hb) hRB hB λW hW hs=>zJs B ⟨#[]⟩ tt W hs ht1 ht2 y 0 h);exact (zI3 w0 p_EE B R hB _ _ _ _ _ _ _ w N0 H1 H2 H3 H4 H5 H6).mono λe w' h=>⟨h.1,λ_=>h.2.1,h.2.2⟩
           · have H6:Hid (zAP w0 B R (zAC B) 65 (.iface 25 (.int .i64 z)) (TkB B ⟨#[]⟩ tt) (TxB B y ⟨#[]⟩)):=hI (zBI (λ_ _ h hb=>h.on hb) hRB hB λW hW hs=>by have hc9:=zJs B ⟨#[]⟩ tt W hs ht1 ht2 y z h;rw [zCS hz] at hc9;exact hc9)
             exact (zI2 w0 p_EE B R hB z _ _ _ _ _ _ _ w N0 H1 H2 H3 H4 H5 H6).mono λe w' h=>⟨h.1,λh9=>absurd h9 hz,h.2⟩
         · have H5:Hid (zAP w0 B R (zAC B) 64 (.iface 25 (.int .i64 zf)) (TrB B ⟨#[]⟩ x) (TkB B ⟨#[]⟩ tt)):=hI (zBI (λ_ _ h hb=>h.on hb) hRB hB λW hW hs=>by have hc9:=zGe B ⟨#[]⟩ x W hs (by omega) (λ_=>hx2) tt zf ht;rw [zCS hf] at hc9;exact hc9)
           rw [if_neg hf] at h;obtain rfl:=((Prod.mk.injEq _ _ _ _).mp h).2;exact (zI1 w0 p_EE B R hB _ _ _ _ _ _ _ w N0 H1 H2 H3 H4 H5).mono λe w' h=>⟨h.1,λh9=>absurd h9 hf,h.2⟩
       · have H4:Hid (zAP w0 B R (zAC B) 63 (.iface 25 (.int .i64 ze)) (TrB B ⟨#[]⟩ v) (TrB B ⟨#[]⟩ x)):=hI (zBI (λ_ _ h hb=>h.on hb) hRB hB λW hW hs=>by have hc9:=zJW B ⟨#[]⟩ v W hs hv1 hv2 p_o x ze hx (p_T.to hW);rw [zCS h1] at hc9;exact hc9)
         have h:=(zBw hx).symm.trans h;rw [if_neg h1] at h;obtain rfl:=((Prod.mk.injEq _ _ _ _).mp h).2;exact (zI0 w0 p_EE B R hB _ _ _ _ _ _ w N0 H1 H2 H3 H4).mono λe w' h=>⟨h.1,λh9=>absurd h9 h1,h.2⟩
     · have H3:Hid (zAP w0 B R (zAC B) 68 (.iface 25 (.int .i64 zv)) (TrB B ⟨#[]⟩ r) (TrB B ⟨#[]⟩ v)):=hI (zBI (λ_ _ h hb=>h.on hb) hRB hB λW hW hs=>by have hc9:=zHf B ⟨#[]⟩ r W hs hr1 hr2 v zv hv;rw [zCS hzv] at hc9;exact hc9)
       rw [if_neg hzv] at h;obtain rfl:=((Prod.mk.injEq _ _ _ _).mp h).2;exact (zIz w0 p_EE B R hB _ _ _ _ _ w N0 H1 H2 H3).mono λe w' h=>⟨h.1,λh9=>absurd h9 hzv,h.2⟩
   · have H2:Hid (zAP w0 B R (zAC B) 67 (.iface 25 (.int .i64 q)) (TkB B ⟨#[]⟩ ts) (TrB B ⟨#[]⟩ r)):=hI (zBI (λ_ _ h hb=>h.on hb) hRB hB λW hW hs=>by have hc9:=zMe B ⟨#[]⟩ ts W hs hl1 (λt ht=>(hl2 t ht).to (by decide)) r q hp1;rw [zCS hq] at hc9;exact hc9)
     rw [if_neg hq] at hrr;rw [zD4 hrr,if_neg hq] at h;obtain rfl:=((Prod.mk.injEq _ _ _ _).mp h).2;exact (zIy w0 p_EE B R hB _ _ _ _ w N0 H1 H2).mono λe w' h=>⟨h.1,λh9=>absurd h9 hq,h.2⟩
 · have H1:Hid (zAP w0 B R (zAC B) 66 (.iface 25 (.int .i64 er)) (TxB B s ⟨#[]⟩) (TkB B ⟨#[]⟩ ts)):=hI (zBI (λ_ _ h hb=>h.on hb) hRB hB λW hW hs=>by have hc9:=zRW B s ⟨#[]⟩ W hs p_s ts kk er hl (p_E.to hW);rw [zCS h0] at hc9;exact hc9)
   rw [if_neg h0] at hrd;have hrr:=zFD hrd;rw [if_neg h0] at hrr;rw [zD4 hrr,if_neg h0] at h;obtain rfl:=((Prod.mk.injEq _ _ _ _).mp h).2;exact (zIx w0 p_EE B R hB _ _ _ w N0 H1).mono λe w' h=>⟨h.1,λh9=>absurd h9 h0,h.2⟩
theorem zEh:(prog.info? 85).map (·.size)=some 4:=by kernel_rfl
theorem zNp (A:Option Addr) (n c:Nat) (v:List Nd) (o:ByteArray) (w:World) (hr:RdB NdS w A v) (hn:v.length=n) (hmax:n<=9223372036854775807) (hsm:n<=512->∀m∈v,zA5 900000 m) (ho:o.size<=1000000) (y:ByteArray) (z:Int) (h:zBS v o.data.toList=(y.data.toList,z)) (hT:TbH w:=by first | assumption | exact TbH.to (by assumption) (by assumption)) (hEE:EvE w:=by first | assumption | exact EvE.to (by assumption) (by assumption)) :
 Calls prog 27 #[.slice A n c,.string o] w λe w'=>e=.returned (.tuple #[.string y,.int .i64 z])/\Below w.heap.size w w':=by
 obtain ⟨W1,hW1⟩:∃W1,w.alloc (.cells #[.string ⟨#[]⟩,.slice none 0 0,.slice A n c,.string o] 85)=W1:=⟨_,rfl⟩;have hx1:W1.heap[w.heap.size]?=some (.cells #[.string ⟨#[]⟩,.slice none 0 0,.slice A n c,.string o] 85 (0,0)):=by rw [←hW1];exact heap_alloc_new w _
 have hb1:Below w.heap.size w W1:=by rw [←hW1];exact stpA (Below.refl _ _) _
 obtain ⟨W2,hW2⟩:∃W2,W1.alloc (.cells #[.func (.func 63) #[.pointer (some ⟨w.heap.size,0,none⟩)] #[],.func (.func 64) #[.pointer (some ⟨w.heap.size,0,none⟩)] #[],.func (.func 65) #[.pointer (some ⟨w.heap.size,0,none⟩)] #[]] 87)=W2:=⟨_,rfl⟩;have hx2:W2.heap[W1.heap.size]?=some (.cells #[.func (.func 63) #[.pointer (some ⟨w.heap.size,0,none⟩)] #[],.func (.func 64) #[.pointer (some ⟨w.heap.size,0,none⟩)] #[],.func (.func 65) #[.pointer (some ⟨w.heap.size,0,none⟩)] #[]] 87 (0,0)):=by rw [←hW2];exact heap_alloc_new W1 _
 have hb2:Below W1.heap.size W1 W2:=by rw [←hW2];exact stpA (Below.refl _ _) _
 have hlt:=zAc hx1;have HRUN:Hid (Calls prog 62 #[.slice (some ⟨W1.heap.size,0,none⟩) 3 3] W2 λe w'=>e=.returned (.int .i64 z)/\(z=0->TxB w.heap.size y o w')/\Below w.heap.size w w'):=hI (zM6 w hEE w.heap.size W1.heap.size v o W2 (stp hb1 hb2) (Nat.le_refl _) ⟨⟨#[]⟩,none,0,0,A,c,by rw [hn];exact zAB hx1 hb2,hr.on (stp hb1 hb2)⟩ hx2 (Nat.ne_of_gt hlt) (by omega) (λh5=>hsm (by omega)) ho hT y z h);have HZ:Hid (z≠0->y=⟨#[]⟩):=hI λhz=>zLU (zDP h hz)
 clear h hr hn hmax hsm ho hT hEE hx1 hb1 hx2 hb2 hlt
 by_cases hz:z=0
 · subst hz
   go_enter func27,ntmps27
   go_wp2_with (first
    | (refine wpList_store_row rfl _ _ _ rfl w.heap.size #[.string ⟨#[]⟩,.slice none 0 0,.slice A n c,.string o] rfl rfl 85 #[.string ⟨#[]⟩,.slice none 0 0,.slice none 0 0,.string ⟨#[]⟩] (heap_alloc_new _ _) zEh rfl (by simp [Value.oneCell']) ?_;rw [World.setRow_alloc_new,hW1])
    | (rw [hW2])
    | (go_at_call 62;(with_reducible refine (HRUN.out).mono ?_);rintro e3 w3 ⟨rfl,hs3,hb3⟩;obtain ⟨a3,n3,c3,A3,m3,d3,hp3⟩:=hs3 rfl;have HB3:=hI hb3;have q0:=zAA w3 w.heap.size 0 _ _ _ hp3;clear hs3 hb3 hp3)
    | fail)
   go_ret2
   exact ⟨rfl,HB3.out⟩
 · have fz:(z==0)=false:=by simp;exact hz
   obtain rfl:=HZ.out hz
   go_enter func27,ntmps27
   go_wp2_with (first
    | (refine wpList_store_row rfl _ _ _ rfl w.heap.size #[.string ⟨#[]⟩,.slice none 0 0,.slice A n c,.string o] rfl rfl 85 #[.string ⟨#[]⟩,.slice none 0 0,.slice none 0 0,.string ⟨#[]⟩] (heap_alloc_new _ _) zEh rfl (by simp [Value.oneCell']) ?_;rw [World.setRow_alloc_new,hW1])
    | (rw [hW2])
    | (go_at_call 62;(with_reducible refine (HRUN.out).mono ?_);rintro e3 w3 ⟨rfl,hs3,hb3⟩;have HB3:=hI hb3;clear hs3 hb3)
    | fail)
   go_ret2
   exact ⟨rfl,HB3.out⟩
theorem zP1 (s:ByteArray) (w:World) (hs:s.size<=1000000) (y:ByteArray) (z:Int) (h:zCv s.data.toList=(y.data.toList,z)) (hE:Ev9 w:=by first | assumption | exact Ev9.to (by assumption) (by assumption)) (hT:TbH w:=by first | assumption | exact TbH.to (by assumption) (by assumption)) (hEE:EvE w:=by first | assumption | exact EvE.to (by assumption) (by assumption)) :
 Calls prog 28 #[.string s] w λe w'=>e=.returned (.tuple #[.string y,.int .i64 z])/\Below w.heap.size w w':=by
 obtain ⟨W1,hW1⟩:∃W1,w.alloc (.cells #[.string s,.slice none 0 0,.slice none 0 0,.string ⟨#[]⟩] 85)=W1:=⟨_,rfl⟩;have hx1:W1.heap[w.heap.size]?=some (.cells #[.string s,.slice none 0 0,.slice none 0 0,.string ⟨#[]⟩] 85 (0,0)):=by rw [←hW1];exact heap_alloc_new w _
 have hb1:Below w.heap.size w W1:=by rw [←hW1];exact stpA (Below.refl _ _) _
 obtain ⟨W2,hW2⟩:∃W2,W1.alloc (.cells #[.func (.func 66) #[.pointer (some ⟨w.heap.size,0,none⟩)] #[],.func (.func 67) #[.pointer (some ⟨w.heap.size,0,none⟩)] #[],.func (.func 68) #[.pointer (some ⟨w.heap.size,0,none⟩)] #[],.func (.func 63) #[.pointer (some ⟨w.heap.size,0,none⟩)] #[],.func (.func 64) #[.pointer (some ⟨w.heap.size,0,none⟩)] #[],.func (.func 65) #[.pointer (some ⟨w.heap.size,0,none⟩)] #[]] 87)=W2:=⟨_,rfl⟩;have hx2:W2.heap[W1.heap.size]?=some (.cells #[.func (.func 66) #[.pointer (some ⟨w.heap.size,0,none⟩)] #[],.func (.func 67) #[.pointer (some ⟨w.heap.size,0,none⟩)] #[],.func (.func 68) #[.pointer (some ⟨w.heap.size,0,none⟩)] #[],.func (.func 63) #[.pointer (some ⟨w.heap.size,0,none⟩)] #[],.func (.func 64) #[.pointer (some ⟨w.heap.size,0,none⟩)] #[],.func (.func 65) #[.pointer (some ⟨w.heap.size,0,none⟩)] #[]] 87 (0,0)):=by rw [←hW2];exact heap_alloc_new W1 _
 have hb2:Below W1.heap.size W1 W2:=by rw [←hW2];exact stpA (Below.refl _ _) _
 have hlt:=zAc hx1;have HRUN:Hid (Calls prog 62 #[.slice (some ⟨W1.heap.size,0,none⟩) 6 6] W2 λe w'=>e=.returned (.int .i64 z)/\(z=0->TxB w.heap.size y ⟨#[]⟩ w')/\Below w.heap.size w w'):=hI (zM4 w hEE w.heap.size W1.heap.size s W2 (stp hb1 hb2) (Nat.le_refl _) ⟨none,0,0,none,0,0,zAB hx1 hb2⟩ hx2 (Nat.ne_of_gt hlt) hs hE hT y z h);have HZ:Hid (z≠0->y=⟨#[]⟩):=hI λhz=>zLU (zIi h hz)
 clear h hs hE hT hEE hx1 hb1 hx2 hb2 hlt
 by_cases hz:z=0
 · subst hz
   go_enter func28,ntmps28
   go_wp2_with (first
    | (refine wpList_store_row rfl _ _ _ rfl w.heap.size #[.string s,.slice none 0 0,.slice none 0 0,.string ⟨#[]⟩] rfl rfl 85 #[.string ⟨#[]⟩,.slice none 0 0,.slice none 0 0,.string ⟨#[]⟩] (heap_alloc_new _ _) zEh rfl (by simp [Value.oneCell']) ?_;rw [World.setRow_alloc_new,hW1])
    | (rw [hW2])
    | (go_at_call 62;(with_reducible refine (HRUN.out).mono ?_);rintro e3 w3 ⟨rfl,hs3,hb3⟩;obtain ⟨a3,n3,c3,A3,m3,d3,hp3⟩:=hs3 rfl;have HB3:=hI hb3;have q0:=zAA w3 w.heap.size 0 _ _ _ hp3;clear hs3 hb3 hp3)
    | fail)
   go_ret2
   exact ⟨rfl,HB3.out⟩
 · have fz:(z==0)=false:=by simp;exact hz
   obtain rfl:=HZ.out hz
   go_enter func28,ntmps28
   go_wp2_with (first
    | (refine wpList_store_row rfl _ _ _ rfl w.heap.size #[.string s,.slice none 0 0,.slice none 0 0,.string ⟨#[]⟩] rfl rfl 85 #[.string ⟨#[]⟩,.slice none 0 0,.slice none 0 0,.string ⟨#[]⟩] (heap_alloc_new _ _) zEh rfl (by simp [Value.oneCell']) ?_;rw [World.setRow_alloc_new,hW1])
    | (rw [hW2])
    | (go_at_call 62;(with_reducible refine (HRUN.out).mono ?_);rintro e3 w3 ⟨rfl,hs3,hb3⟩;have HB3:=hI hb3;clear hs3 hb3)
    | fail)
   go_ret2
   exact ⟨rfl,HB3.out⟩
theorem zBr.up {m:Nat} {n:Nd} (h:zBr m n) (hm:m<20000):zA5 m n :=
 ⟨by have:=h.space;omega,by have:=h.name;omega,by have:=h.text;omega,by have:=h.attrs;omega,λa ha=>by obtain ⟨h1,h2,h3⟩:=h.each a ha;exact ⟨by omega,by omega,by omega⟩⟩
theorem is12 (s x:ByteArray) (w:World) (hs:s.size<=1000000) (h:zCv s.data.toList=(x.data.toList,0)) (hE:Ev9 w:=by first | assumption | exact Ev9.to (by assumption) (by assumption)) (hT:TbH w:=by first | assumption | exact TbH.to (by assumption) (by assumption)) (hEE:EvE w:=by first | assumption | exact EvE.to (by assumption) (by assumption)) :
 Calls prog 26 #[.string s,.string x] w λe w'=>e=.returned (.bool true)/\Below w.heap.size w w':=by
 have HC:=hI (zP1 s w hs x 0 h);clear h hs hE hT hEE
 go_enter func26,ntmps26
 go_wp2_with (first
  | (go_at_call 28;(with_reducible refine (HC.out).mono ?_);rintro e1 w1 ⟨rfl,hb1⟩;have HB1:=hI hb1;clear hb1)
  | fail)
 go_ret
 exact ⟨rfl,HB1.out⟩
def zPs:ByteArray:=⟨#[60,112,58,97,32,120,109,108,110,115,58,112,61,39,117,39,32,62,60,112,58,98,32,62,60,47,112,58,98,62,60,47,112,58,97,62]⟩
def zPt:ByteArray:=⟨#[60,97,32,120,109,108,110,115,61,34,117,34,62,60,98,47,62,60,47,97,62]⟩
theorem al12:zCv zPs.data.toList=(zPt.data.toList,0):=by decide +kernel
theorem zPu (w:World) (hE:Ev9 w:=by first | assumption | exact Ev9.to (by assumption) (by assumption)) (hT:TbH w:=by first | assumption | exact TbH.to (by assumption) (by assumption)) (hEE:EvE w:=by first | assumption | exact EvE.to (by assumption) (by assumption)) :
 Calls prog 29 #[] w λe w'=>e=.returned (.bool true)/\Below w.heap.size w w':=by
 have HI:=hI (is12 zPs zPt w (by decide) al12);unfold zPs zPt at HI;clear hE hT hEE
 go_enter func29,ntmps29
 go_wp2_with (first
  | (go_at_call 26;(with_reducible refine (HI.out).mono ?_);rintro e1 w1 ⟨rfl,hb1⟩;have HB1:=hI hb1;clear hb1)
  | fail)
 go_ret
 exact ⟨rfl,HB1.out⟩
section
variable {ε:Type} {f:ε->Nd->Nd × Bool} {dn:ε->Nd->ε}
theorem zNm {d d':Nat} (hd:∀l r p e,zAD d l=some r->l=p++r->∀x,zAH f dn d' e (p++x)=((zAH f dn d e l).1,x)) (e:ε):∀(k:Nat) (b:Bool) (l:List Nd) (b':Bool) (r p:List Nd),zAF (zAD d) k b l=some (b',r)->l=p++r->∀x,zAU (zAH f dn d' e) k (p++x)=((zAU (zAH f dn d e) k l).1,x):=by
 intro k
 induction k with
 | zero =>
  intro b l b' r p h hp x;rw [zAF] at h;obtain ⟨rfl,rfl⟩:=(Prod.mk.injEq _ _ _ _).mp (Option.some.inj h);have:p=[]:=by have:=congrArg List.length hp;rw [List.length_append] at this;exact List.eq_nil_of_length_eq_zero (by omega)
  subst this
  rfl
 | succ k ih =>
  intro b l b' r p h hp x
  cases l with
  | nil=>rw [zAF] at h;cases h
  | cons n l =>
   rw [zAF] at h
   by_cases hb:b=true/\n.kind=2
   · rw [if_pos hb] at h;cases h
   · rw [if_neg hb] at h
     cases hn:zAD d (n::l) with
     | none=>rw [hn] at h;cases h
     | some y =>
      rw [hn] at h;obtain ⟨q,_,hq,_⟩:=zAZ d _ _ hn;obtain ⟨p2,hp2,_,_⟩:=zBB (zAZ d) _ _ _ _ _ h
      have hpq:p=q++p2:=by
       rw [hq,hp2,←List.append_assoc] at hp;exact (List.append_cancel_right hp).symm
      subst hpq;have h1:=hd _ _ q e hn hq (p2++x);have h2:=ih _ _ _ _ p2 h hp2 x;rw [List.append_assoc,zAU,h1,zAU,(zAv d _ _ e hn).1];dsimp only;rw [h2]
theorem zNl:∀(d d':Nat),d<=d'->∀(l r p:List Nd) (e:ε),zAD d l=some r->l=p++r->∀x,zAH f dn d' e (p++x)=((zAH f dn d e l).1,x):=by
 intro d
 induction d with
 | zero =>
  intro d' hd' l r p e h hp x
  cases l with
  | nil=>rw [zAD] at h;cases h
  | cons n l =>
   rw [zAD] at h
   by_cases hn:ndOk n=true/\n.kind=2
   · rw [if_pos hn] at h
     injection h with h;subst h
     have hpn:p=[n]:=by
      rw [←List.singleton_append] at hp;exact (List.append_cancel_right hp).symm
     subst hpn;rw [List.singleton_append]
     cases d' with
     | zero=>rw [zAH,zAH]
     | succ d'=>rw [zAH,zAH,if_pos hn.2]
   · rw [if_neg hn] at h;cases h
 | succ d ih =>
  intro d' hd' l r p e h hp x;obtain ⟨d',rfl⟩:∃k,d'=k+1:=⟨d' - 1,by omega⟩
  cases l with
  | nil=>rw [zAD] at h;cases h
  | cons n l =>
   rw [zAD] at h
   by_cases hn:ndOk n=true/\0<=n.many
   · rw [if_pos hn] at h
     cases hk:zAF (zAD d) n.many.toNat false l with
     | none=>rw [hk] at h;cases h
     | some y =>
      rw [hk] at h;obtain ⟨b',y⟩:=y;have h:y=r:=Option.some.inj h;subst h;obtain ⟨p2,hp2,_,_⟩:=zBB (zAZ d) _ _ _ _ _ hk
      have hpq:p=n::p2:=by
       rw [hp2,←List.cons_append] at hp;exact (List.append_cancel_right hp).symm
      subst hpq;rw [List.cons_append,zAH,zAH]
      by_cases h2:n.kind=2
      · rw [if_pos h2,if_pos h2]
        rw [(zA6 hn.1 h2).1] at hk;have hk:some (false,l)=some (b',y):=hk;obtain ⟨_,rfl⟩:=(Prod.mk.injEq _ _ _ _).mp (Option.some.inj hk);have:p2=[]:=by have:=congrArg List.length hp2;rw [List.length_append] at this;exact List.eq_nil_of_length_eq_zero (by omega)
        rw [this,List.nil_append]
      · rw [if_neg h2,if_neg h2,zNm (λl r p e=>ih d' (by omega) l r p e) (dn e n) _ _ _ _ _ p2 hk hp2 x]
   · rw [if_neg hn] at h;cases h
end
theorem zNY {d d':Nat} (hd:∀l r p,zAD d l=some r->l=p++r->∀x,zAn d' (p++x)=((zAn d l).1,x)):∀(k:Nat) (b:Bool) (l:List Nd) (b':Bool) (r p:List Nd),zAF (zAD d) k b l=some (b',r)->l=p++r->∀x,zBJ (zAn d') k (p++x)=((zBJ (zAn d) k l).1,x):=by
 intro k
 induction k with
 | zero =>
  intro b l b' r p h hp x;rw [zAF] at h;obtain ⟨rfl,rfl⟩:=(Prod.mk.injEq _ _ _ _).mp (Option.some.inj h);have:p=[]:=by have:=congrArg List.length hp;rw [List.length_append] at this;exact List.eq_nil_of_length_eq_zero (by omega)
  subst this
  rfl
 | succ k ih =>
  intro b l b' r p h hp x
  cases l with
  | nil=>rw [zAF] at h;cases h
  | cons n l =>
   rw [zAF] at h
   by_cases hb:b=true/\n.kind=2
   · rw [if_pos hb] at h;cases h
   · rw [if_neg hb] at h
     cases hn:zAD d (n::l) with
     | none=>rw [hn] at h;cases h
     | some y =>
      rw [hn] at h;obtain ⟨q,_,hq,_⟩:=zAZ d _ _ hn;obtain ⟨p2,hp2,_,_⟩:=zBB (zAZ d) _ _ _ _ _ h
      have hpq:p=q++p2:=by
       rw [hq,hp2,←List.append_assoc] at hp;exact (List.append_cancel_right hp).symm
      subst hpq;have h1:=hd _ _ q hn hq (p2++x);have h2:=ih _ _ _ _ p2 h hp2 x;rw [List.append_assoc,zBJ,h1,zBJ,zEB d _ _ hn];dsimp only;rw [h2]
theorem zH1:∀(d d':Nat),d<=d'->∀(l r p:List Nd),zAD d l=some r->l=p++r->∀x,zAn d' (p++x)=((zAn d l).1,x):=by
 intro d
 induction d with
 | zero =>
  intro d' hd' l r p h hp x
  cases l with
  | nil=>rw [zAD] at h;cases h
  | cons n l =>
   rw [zAD] at h
   by_cases hn:ndOk n=true/\n.kind=2
   · rw [if_pos hn] at h
     injection h with h;subst h
     have hpn:p=[n]:=by
      rw [←List.singleton_append] at hp;exact (List.append_cancel_right hp).symm
     subst hpn;rw [List.singleton_append]
     cases d' with
     | zero=>rw [zAn,zAn]
     | succ d'=>rw [zAn,zAn,if_pos hn.2]
   · rw [if_neg hn] at h;cases h
 | succ d ih =>
  intro d' hd' l r p h hp x;obtain ⟨d',rfl⟩:∃k,d'=k+1:=⟨d' - 1,by omega⟩
  cases l with
  | nil=>rw [zAD] at h;cases h
  | cons n l =>
   rw [zAD] at h
   by_cases hn:ndOk n=true/\0<=n.many
   · rw [if_pos hn] at h
     cases hk:zAF (zAD d) n.many.toNat false l with
     | none=>rw [hk] at h;cases h
     | some y =>
      rw [hk] at h;obtain ⟨b',y⟩:=y;have h:y=r:=Option.some.inj h;subst h;obtain ⟨p2,hp2,_,_⟩:=zBB (zAZ d) _ _ _ _ _ hk
      have hpq:p=n::p2:=by
       rw [hp2,←List.cons_append] at hp;exact (List.append_cancel_right hp).symm
      subst hpq
      have hz:n.many.toNat=0->p2=[]:=λh0=>by
       rw [h0] at hk;have hk:some (false,l)=some (b',y):=hk;obtain ⟨_,rfl⟩:=(Prod.mk.injEq _ _ _ _).mp (Option.some.inj hk);have:=congrArg List.length hp2;rw [List.length_append] at this;exact List.eq_nil_of_length_eq_zero (by omega)
      rw [List.cons_append,zAn,zAn]
      by_cases h2:n.kind=2
      · rw [if_pos h2,if_pos h2,hz (by rw [(zA6 hn.1 h2).1];rfl),List.nil_append]
      · rw [if_neg h2,if_neg h2]
        by_cases h3:n.many=0
        · rw [if_pos h3,if_pos h3,hz (by rw [h3];rfl),List.nil_append]
        · rw [if_neg h3,if_neg h3,zNY (λl r p=>ih d' (by omega) l r p) _ _ _ _ _ p2 hk hp2 x]
   · rw [if_neg hn] at h;cases h
def zCG:Nat->List Nd->List (List Nd)
 | 0,_=>[]
 | k+1,l=>match zAD 12 l with
  | none=>[]
  | some r=>l.take (l.length - r.length)::zCG k r
theorem zHa (v:List Nd):∀(k:Nat) (b:Bool) (p:Nat) (l:List Nd) (b':Bool) (r:List Nd),zAF (zAD 12) k b l=some (b',r)->v.drop p=l->(zBZ (zAD 12) k p l).map (zA4 v)=zCG k l:=by
 intro k
 induction k with
 | zero=>intro b p l b' r _ _;rfl
 | succ k ih =>
  intro b p l b' r h hp
  cases l with
  | nil=>rw [zAF] at h;cases h
  | cons n l =>
   rw [zAF] at h
   by_cases hb:b=true/\n.kind=2
   · rw [if_pos hb] at h;cases h
   · rw [if_neg hb] at h
     cases hn:zAD 12 (n::l) with
     | none=>rw [hn] at h;cases h
     | some y =>
      rw [hn] at h;have hd:=zDA hn
      have h1:zA4 v p=(n::l).take ((n::l).length - y.length):=by
       unfold zA4;rw [hp,hn]
      have h2:=ih _ (p+((n::l).length - y.length)) y _ _ h (by rw [←List.drop_drop,hp,←hd]);rw [zBZ,zCG,hn];dsimp only;rw [List.map_cons,h1,h2]
def zCl (sp:List UInt8) (q:List Nd):List Tk:=(zAn 12 (zCq q sp).1.1).1
theorem zKm {sp:List UInt8}:∀(k:Nat) (b:Bool) (l:List Nd) (b':Bool) (r p:List Nd),zAF (zAD 11) k b l=some (b',r)->l=p++r->(∀n∈p,zCM n=true)->(zAU (zAH zBL zAg 11 sp) k l).1.2=true →
 (∀x,zBJ (zAn 11) k ((zAU (zAH zBL zAg 11 sp) k l).1.1++x)=((zCG k l).flatMap (zCl sp),x))/\∀q∈zCG k l,(zCq q sp).1.2=true:=by
 intro k
 induction k with
 | zero =>
  intro b l b' r p h hp hQ hw;exact ⟨λx=>by rw [zAU];rfl,λq hq=>by rw [zCG] at hq;cases hq⟩
 | succ k ih =>
  intro b l b' r p h hp hQ hw
  cases l with
  | nil=>rw [zAF] at h;cases h
  | cons n l =>
   rw [zAF] at h
   by_cases hb:b=true/\n.kind=2
   · rw [if_pos hb] at h;cases h
   · rw [if_neg hb] at h
     cases hn:zAD 11 (n::l) with
     | none=>rw [hn] at h;cases h
     | some y =>
      rw [hn] at h;have h12:=zD8 _ _ _ hn;obtain ⟨q,_,hq,_⟩:=zAZ 11 _ _ hn;obtain ⟨p2,hp2,_,_⟩:=zBB (zAZ 11) _ _ _ _ _ h
      have hpq:p=q++p2:=by
       rw [hq,hp2,←List.append_assoc] at hp;exact (List.append_cancel_right hp).symm
      subst hpq
      have htk:(n::l).take ((n::l).length - y.length)=q:=by
       rw [hq,List.length_append,Nat.add_sub_cancel,List.take_left]
      rw [zAU] at hw;have hw:((zAH zBL zAg 11 sp (n::l)).1.2&&(zAU (zAH zBL zAg 11 sp) k (zAH zBL zAg 11 sp (n::l)).2).1.2)=true:=hw;rw [Bool.and_eq_true,(zAv 11 _ _ sp hn).1] at hw;obtain ⟨m,hm⟩:∃m,(zAH zBL zAg 11 sp (n::l)).1.1=m:=⟨_,rfl⟩;have hs:=(zFV zDC 11 (n::l) y q sp hn hq (λa ha=>hQ a (List.mem_append.2 (.inl ha))) trivial hw.1).1
      have hW:zCq q sp=((zAH zBL zAg 11 sp (n::l)).1,[]):=by
       unfold zCq;have:=zNl (f:=zBL) (dn:=zAg) 11 12 (by omega) (n::l) y q sp hn hq []
       rwa [List.append_nil] at this
      rw [hm] at hs;have hT:zCl sp q=(zAn 12 m).1:=by unfold zCl;rw [hW,hm]
      have h11:∀z,zAn 11 (m++z)=(zCl sp q,z):=λz=>by
       have k1:=zH1 11 12 (by omega) (m++z) z m (hs z) rfl [];have k2:=zH1 11 11 (Nat.le_refl _) (m++z) z m (hs z) rfl z;rw [List.append_nil] at k1;rw [hT,k1];exact k2
      obtain ⟨j1,j2⟩:=ih _ _ _ _ p2 h hp2 (λa ha=>hQ a (List.mem_append.2 (.inr ha))) hw.2
      have hparts:zCG (k+1) (n::l)=q::zCG k y:=by
       rw [zCG,h12];dsimp only;rw [htk]
      have hwk:(zAU (zAH zBL zAg 11 sp) (k+1) (n::l)).1.1=m++(zAU (zAH zBL zAg 11 sp) k y).1.1:=by
       rw [zAU,(zAv 11 _ _ sp hn).1,hm]
      refine ⟨λx=>?_,λa ha=>?_⟩
      · rw [hwk,hparts,List.append_assoc,zBJ,h11]
        dsimp only;rw [j1,List.flatMap_cons]
      · rw [hparts] at ha
        rcases List.mem_cons.1 ha with rfl | ha
        · rw [hW]
          exact hw.1
        · exact j2 a ha
theorem zGv:∀{a b:List Tk},zBi (a++b)=true->zBi a=true
 | [],_,_=>rfl
 | [_],_,_=>rfl
 | x::y::r,b,h=>by
  rw [List.cons_append,List.cons_append,zBi,Bool.and_eq_true,←List.cons_append] at h;rw [zBi,Bool.and_eq_true];exact ⟨h.1,zGv h.2⟩
theorem zGw:∀{a b:List Tk},zBi (a++b)=true->zBi b=true
 | [],_,h=>h
 | x::a,b,h=>zGw (a:=a) (zKM h)
theorem zKb {a b c:List Tk} {s:List UInt8} (h:zCj (a++(b++c))=(s,0)):zCj b=(b.flatMap zAK,0):=by
 unfold zCj at h ⊢
 split at h
 · rename_i hc
   split at h
   · have:=congrArg Prod.snd h
     cases this
   · rename_i hl
     rw [not_or] at hl;rw [List.all_append,List.all_append,Bool.and_eq_true,Bool.and_eq_true] at hc;rw [List.length_append,List.length_append,List.flatMap_append,List.flatMap_append,List.length_append,List.length_append] at hl;rw [if_pos ⟨hc.1.2.1,zGv (zGw hc.2)⟩,if_neg (by omega)]
 · have:=congrArg Prod.snd h
   cases this
theorem zKa {l:List Tk} {s:List UInt8} (h:zCj l=(s,0)):s=l.flatMap zAK:=by
 unfold zCj at h
 split at h
 · split at h
   · have:=congrArg Prod.snd h
     cases this
   · exact ((Prod.mk.injEq _ _ _ _).mp h).1.symm
 · have:=congrArg Prod.snd h
   cases this
theorem zON {v:List Nd} {s:List UInt8} (h:zBS v []=(s,0)):∃n l,v=n::l/\n.kind=1/\mayV v=true/\0<=n.many/\(zCp v 0).map (zA4 v)=zCG n.many.toNat l/\(zCp v 0).length=n.many.toNat/\(∀p∈zCp v 0,p<v.length) ∧
 (∀p∈zCp v 0,∀(hp:p<v.length),(v[p]'hp).kind=1->zBS (zA4 v p) n.space=((zCl n.space (zA4 v p)).flatMap zAK,0)) ∧
 ∃hd,s=hd++(if n.many=0 then [47,62] else (((zCp v 0).map (zA4 v)).flatMap λq=>(zCl n.space q).flatMap zAK)++60::47::(n.name++[62])):=by
 obtain ⟨a,ts,h1,h2,h3⟩:=zFp h;obtain ⟨_,ham,har,hS,_⟩:=zLV h1;obtain ⟨hQ,hv⟩:=zC3.1 hS;obtain ⟨h512,⟨n,l,rfl,hk⟩,hrest⟩:=zAj.1 hv
 have hw:(zCq (n::l) []).1.2=true/\(zCq (n::l) []).1.1=a:=by
  unfold zB5 at h1
  split at h1
  · split at h1
    · rename_i hw
      exact ⟨hw,((Prod.mk.injEq _ _ _ _).mp h1).1⟩
    · have:=congrArg Prod.snd h1
      cases this
  · have:=congrArg Prod.snd h1
    cases this
 have hn2:¬n.kind=2:=by omega
 obtain ⟨hok,hm0,_⟩:=zBE hrest
 have hkids:∃b',zAF (zAD 11) n.many.toNat false l=some (b',[]):=by
  rw [zAD,if_pos ⟨hok,hm0⟩] at hrest
  cases hx:zAF (zAD 11) n.many.toNat false l with
  | none=>rw [hx] at hrest;cases hrest
  | some y =>
   rw [hx] at hrest;obtain ⟨b',y⟩:=y;have hy:y=[]:=Option.some.inj hrest;exact ⟨b',by rw [hy]⟩
 obtain ⟨b',hkids⟩:=hkids
 have hunder:(zCp (n::l) 0).map (zA4 (n::l))=zCG n.many.toNat l:=by
  show (zBZ (zAD 12) n.many.toNat 1 l).map (zA4 (n::l))=_;exact zHa (n::l) _ false 1 l b' [] (zEZ (by omega) hkids) rfl
 have hplaces:(zCp (n::l) 0).length=n.many.toNat/\∀p∈zCp (n::l) 0,p<(n::l).length:=by
  obtain ⟨k1,k2⟩:=zHZ (zAZ 12) n.many.toNat 1 false b' l [] (zEZ (by omega) hkids);exact ⟨k1,λp hp=>by have:=(k2 p hp).2;rw [List.length_cons];omega⟩
 unfold zCq at hw;rw [zAH,if_neg hn2] at hw;obtain ⟨hw1,hw2⟩:=hw;have hw1:((zBL [] n).2&&(zAU (zAH zBL zAg 11 n.space) n.many.toNat l).1.2)=true:=hw1;rw [Bool.and_eq_true] at hw1;obtain ⟨j1,j2⟩:=zKm (sp:=n.space) n.many.toNat false l b' [] l hkids (by rw [List.append_nil]) (λm hm=>hQ m (List.mem_cons_of_mem _ hm)) hw1.2
 have hts:ts=(zAn 12 a).1:=by
  unfold zAw at h2;rw [if_pos ⟨ham,har⟩] at h2
  split at h2
  · have:=congrArg Prod.snd h2
    cases this
  · exact ((Prod.mk.injEq _ _ _ _).mp h2).1.symm
 have hl512:ts.length<=512:=by
  unfold zAw at h2;rw [if_pos ⟨ham,har⟩] at h2
  split at h2
  · have:=congrArg Prod.snd h2
    cases this
  · rw [hts];omega
 have hw2:zCd [] n::(zAU (zAH zBL zAg 11 n.space) n.many.toNat l).1.1=a:=hw2;have hj:=j1 [];rw [List.append_nil] at hj
 have hts2:ts=if n.many=0 then [⟨3,n.name,zAz (zBC [] n),[]⟩] else ⟨1,n.name,zAz (zBC [] n),[]⟩::((zCG n.many.toNat l).flatMap (zCl n.space)++[⟨2,n.name,[],[]⟩]):=by
  rw [hts,←hw2,zAn,if_neg (show ¬(zCd [] n).kind=2 from (by decide:¬(1:Nat)=2))];show (if n.many=0 then _ else _:List Tk × List Nd).1=_
  by_cases h0:n.many=0
  · rw [if_pos h0,if_pos h0]
    rfl
  · rw [if_neg h0,if_neg h0]
    show _::((zBJ (zAn 11) n.many.toNat _).1++_)=_;rw [hj]
    rfl
 obtain ⟨hs1,hs2,hs3⟩:okT n.space=true/\n.space≠zAt/\n.space≠zAb:=by
  have h5:=zCY.1 (hQ n List.mem_cons_self);exact ⟨(zC6 hok hk).2.2.1,h5.2.1,h5.2.2.1⟩
 refine ⟨n,l,rfl,hk,hv,hm0,hunder,hplaces.1,hplaces.2,λp hp hpl hpk=>?_,?_⟩
 · have hq:zA4 (n::l) p∈zCG n.many.toNat l:=by rw [←hunder];exact List.mem_map.2 ⟨p,hp,rfl⟩
   have hqw:=j2 _ hq;have hqm:=zMh hv hpl hpk;obtain ⟨r,hr⟩:=zE9 hv hpl;have hqe:=(zGR hr).1
   have hqQ:∀m∈zA4 (n::l) p,zCM m=true:=λm hm=>by
    rw [hqe] at hm;exact hQ m (List.mem_of_mem_drop (List.mem_of_mem_take hm))
   obtain ⟨k1,k2,k3⟩:=zEk zDC hqm hqQ trivial hqw;have hraw:rawV (zAH zBL zAg 12 n.space (zA4 (n::l) p)).1.1=true:=by unfold rawV;rw [List.all_eq_true];exact k3
   have hb:zB5 (zA4 (n::l) p) n.space=((zCq (zA4 (n::l) p) n.space).1.1,0):=by
    unfold zB5;rw [if_pos ⟨zC3.2 ⟨hqQ,hqm⟩,hs1,hs2,hs3⟩,if_pos hqw]
   have h0:¬n.many=0:=λh0=>by
    rw [h0] at hq;have hq:zA4 (n::l) p∈([]:List (List Nd)):=hq
    cases hq
   rw [if_neg h0] at hts2;obtain ⟨A,B,hAB⟩:=List.append_of_mem hq;rw [hAB,List.flatMap_append,List.flatMap_cons] at hts2
   have hts3:ts=(⟨1,n.name,zAz (zBC [] n),[]⟩::A.flatMap (zCl n.space))++(zCl n.space (zA4 (n::l) p)++(B.flatMap (zCl n.space)++[⟨2,n.name,[],[]⟩])):=by
    rw [hts2];simp only [List.append_assoc,List.cons_append]
   have hlen:=congrArg List.length hts3;rw [List.length_append,List.length_append] at hlen
   have ht:zAw (zCq (zA4 (n::l) p) n.space).1.1=(zCl n.space (zA4 (n::l) p),0):=by
    unfold zAw;rw [if_pos ⟨k1,hraw⟩,if_neg]
    · rfl
    · show ¬512<(zCl n.space (zA4 (n::l) p)).length
      omega
   rw [zD5 hb ht,if_pos rfl];rw [hts3] at h3;exact zKb h3
 · rw [zKa h3,hts2]
   by_cases h0:n.many=0
   · rw [if_pos h0,if_pos h0,List.flatMap_singleton]
     refine ⟨60::(n.name++(zAz (zBC [] n)).flatMap zBx),?_⟩;unfold zAK;rw [if_neg (show ¬(3:Nat)=4 by decide),if_neg (show ¬(3:Nat)=2 by decide),if_pos rfl]
     simp
   · rw [if_neg h0,if_neg h0,List.flatMap_cons,List.flatMap_append,List.flatMap_singleton,hunder]
     refine ⟨zAK ⟨1,n.name,zAz (zBC [] n),[]⟩,?_⟩;have e1:((zCG n.many.toNat l).flatMap (zCl n.space)).flatMap zAK=(zCG n.many.toNat l).flatMap λq=>(zCl n.space q).flatMap zAK:=List.flatMap_assoc
     have e2:zAK ⟨2,n.name,[],[]⟩=60::47::(n.name++[62]):=by
      unfold zAK;rw [if_neg (show ¬(2:Nat)=4 by decide),if_pos rfl]
     rw [e1,e2]
end Hx
namespace Hx
open Lx Tr Tx Nmb Es
end Hx
end Go.Proofs.YtlgppednjkbgiaaGreatDoor
