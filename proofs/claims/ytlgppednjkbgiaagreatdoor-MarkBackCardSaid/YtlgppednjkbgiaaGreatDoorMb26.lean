/- Texts put together. -/
import Derived.Test.YtlgppednjkbgiaaGreatDoorMbA
import Derived.Test.YtlgppednjkbgiaaGreatDoorMb25
import Derived.Test.YtlgppednjkbgiaaGreatDoorMb24
import Derived.Test.YtlgppednjkbgiaaGreatDoorMb23
set_option maxRecDepth 100000
set_option maxHeartbeats 16000000
set_option linter.unusedVariables false
set_option linter.unusedSimpArgs false
namespace Go.Proofs.YtlgppednjkbgiaaGreatDoor
open Go.RowKit Go.Proofs.Tryz
namespace Hx
open Lx Tr Tx Nmb Es Ns
theorem zIi (w0:World) (hE:EvE w0) (B R:Nat) (hB:w0.heap.size<=B) (S0 S1 S2 S3 S4 S5 S6:World->Prop) (w:World) (N0:Hid (Mkx w0 B R (zAC B) S0 w)) (H1:Hid (zAI w0 B R (zAC B) 66 (.nilIface) S0 S1)) (H2:Hid (zAI w0 B R (zAC B) 67 (.nilIface) S1 S2)) (H3:Hid (zAI w0 B R (zAC B) 68 (.nilIface) S2 S3)) (H4:Hid (zAI w0 B R (zAC B) 63 (.nilIface) S3 S4)) (H5:Hid (zAI w0 B R (zAC B) 64 (.nilIface) S4 S5)) (H6:Hid (zAI w0 B R (zAC B) 65 (.nilIface) S5 S6)) :
 Calls prog 62 #[.slice (some ⟨R,0,none⟩) 6 6] w λe w'=>e=.returned (.int .i64 0)/\S6 w'∧Below w0.heap.size w0 w':=by
 have HBB:=hI hB;have kr0:=zAA w R 0 _ _ _ N0.out.row;unfold zAC at kr0;clear hB
 go_enter func62,ntmps62
 go_wp2_with fail
 refine wp_loop_rounds 7 ?_;rw [rounds_succ]
 go_wp2_with (first
  | (go_at_call 66;(with_reducible refine (H1.out.go w N0.out).mono ?_);rintro e1 w1 ⟨rfl,n1,x1⟩;have N1:=hI n1;have kr1:=zAA w1 R 1 _ _ _ n1.row;unfold zAC at kr1;clear n1 x1)
  | (go_at_call 99;(with_reducible refine (zAe _ _).mono ?_);rintro e7 w7 ⟨rfl,h7⟩;subst w7)
  | fail)
 rw [rounds_succ]
 go_wp2_with (first
  | (go_at_call 67;(with_reducible refine (H2.out.go w1 N1.out).mono ?_);rintro e2 w2 ⟨rfl,n2,x2⟩;have N2:=hI n2;have kr2:=zAA w2 R 2 _ _ _ n2.row;unfold zAC at kr2;clear n2 x2)
  | (go_at_call 99;(with_reducible refine (zAe _ _).mono ?_);rintro e7 w7 ⟨rfl,h7⟩;subst w7)
  | fail)
 rw [rounds_succ]
 go_wp2_with (first
  | (go_at_call 68;(with_reducible refine (H3.out.go w2 N2.out).mono ?_);rintro e3 w3 ⟨rfl,n3,x3⟩;have N3:=hI n3;have kr3:=zAA w3 R 3 _ _ _ n3.row;unfold zAC at kr3;clear n3 x3)
  | (go_at_call 99;(with_reducible refine (zAe _ _).mono ?_);rintro e7 w7 ⟨rfl,h7⟩;subst w7)
  | fail)
 rw [rounds_succ]
 go_wp2_with (first
  | (go_at_call 63;(with_reducible refine (H4.out.go w3 N3.out).mono ?_);rintro e4 w4 ⟨rfl,n4,x4⟩;have N4:=hI n4;have kr4:=zAA w4 R 4 _ _ _ n4.row;unfold zAC at kr4;clear n4 x4)
  | (go_at_call 99;(with_reducible refine (zAe _ _).mono ?_);rintro e7 w7 ⟨rfl,h7⟩;subst w7)
  | fail)
 rw [rounds_succ]
 go_wp2_with (first
  | (go_at_call 64;(with_reducible refine (H5.out.go w4 N4.out).mono ?_);rintro e5 w5 ⟨rfl,n5,x5⟩;have N5:=hI n5;have kr5:=zAA w5 R 5 _ _ _ n5.row;unfold zAC at kr5;clear n5 x5)
  | (go_at_call 99;(with_reducible refine (zAe _ _).mono ?_);rintro e7 w7 ⟨rfl,h7⟩;subst w7)
  | fail)
 rw [rounds_succ]
 go_wp2_with (first
  | (go_at_call 65;(with_reducible refine (H6.out.go w5 N5.out).mono ?_);rintro e6 w6 ⟨rfl,n6,x6⟩;have N6:=hI n6;clear n6 x6)
  | (go_at_call 99;(with_reducible refine (zAe _ _).mono ?_);rintro e7 w7 ⟨rfl,h7⟩;subst w7)
  | fail)
 rw [rounds_succ]
 go_wp2_with fail
 go_ret
 exact ⟨rfl,N6.out.st,N6.out.bel⟩
theorem zJU {v x:List Nd} {o:List UInt8} {e:Int} (h:zCS v o=(x,e)) (hs:v.length<=512->∀m∈v,zAy 900000 m):x.length<=512/\∀m∈x,zAW m:=by
 unfold zCS at h
 split at h
 · rename_i hc
   split at h
   · rename_i hw
     have hx:=((Prod.mk.injEq _ _ _ _).mp h).1;obtain ⟨hQ,hv⟩:=zEZ.1 hc.1;have h5:=(zAs.1 hv).1;have hl:=(zF4 zFc hv hQ trivial hw).2.1;refine ⟨?_,λm hm=>?_⟩
     · have:(zGr v o).1.1.length=v.length:=hl
       rw [←hx,this];exact h5
     · rw [←hx] at hm
       exact zFn (by decide) o (hs h5) m hm
   · rw [←((Prod.mk.injEq _ _ _ _).mp h).1]
     exact ⟨Nat.zero_le _,λm hm=>by cases hm⟩
 · rw [←((Prod.mk.injEq _ _ _ _).mp h).1]
   exact ⟨Nat.zero_le _,λm hm=>by cases hm⟩
theorem zOr (w0:World) (p_EE:EvE w0) (B R:Nat) (s o:ByteArray) (w:World) (hb0:Below w0.heap.size w0 w) (hB:w0.heap.size<=B) (hp:TxB B s o w) (hR:w.heap[R]?=some (.cells (zAT B) 87 (0,0))) (hRB:R≠B) (p_s:s.size<=1000000) (p_E:Ev9 w0) (v:List Nd) (z:Int) (h:zBd s.data.toList=(v,z)) :
 Calls prog 62 #[.slice (some ⟨R,0,none⟩) 3 3] w λe w'=>e=.returned (.int .i64 z)/\(z=0->TrB B o v w')/\Below w0.heap.size w0 w':=by
 obtain ⟨ts,kk,er,hl⟩:∃ts kk er,lexR s.data.toList=(ts,kk,er):=⟨_,_,_,rfl⟩;have hrd:=zDF hl;obtain ⟨hl1,hl2⟩:=zI7 hl;have N0:Hid (Mkx w0 B R (zAT B) (TxB B s o) w):=hI ⟨hb0,hp,hR,hp.lt⟩
 by_cases h0:er=0
 · subst h0
   have H1:Hid (zAI w0 B R (zAT B) 66 .nilIface (TxB B s o) (TkB B o ts)):=hI (zAx (λ_ _ h hb=>h.on hb) hRB hB λW hW hs=>zOU B s o W hs p_s ts kk 0 hl (p_E.to hW));rw [if_pos rfl] at hrd;obtain ⟨r,q,hp1⟩:∃r q,zBE ts=(r,q):=⟨_,_,rfl⟩;rw [hp1] at hrd;rw [zCW hrd] at h
   by_cases hq:q=0
   · subst hq
     have H2:Hid (zAI w0 B R (zAT B) 67 .nilIface (TkB B o ts) (TrB B o r)):=hI (zAx (λ_ _ h hb=>h.on hb) hRB hB λW hW hs=>zGH B o ts W hs hl1 (λt ht=>(hl2 t ht).to (by decide)) r 0 hp1);rw [if_pos rfl] at h;have hv:=h;have hr1:=zEA hp1;have hr2:∀m∈r,zAy 900000 m:=λm hm=>(zEk hp1 hl2 m hm).up (by decide)
     by_cases hz:z=0
     · subst hz
       have H3:Hid (zAI w0 B R (zAT B) 68 .nilIface (TrB B o r) (TrB B o v)):=hI (zAx (λ_ _ h hb=>h.on hb) hRB hB λW hW hs=>zDW B o r W hs hr1 hr2 v 0 hv);exact (zKO w0 p_EE B R hB _ _ _ _ w N0 H1 H2 H3).mono λe w' h=>⟨h.1,λ_=>h.2.1,h.2.2⟩
     · have H3:Hid (zAI w0 B R (zAT B) 68 (.iface 25 (.int .i64 z)) (TrB B o r) (TrB B o v)):=hI (zAx (λ_ _ h hb=>h.on hb) hRB hB λW hW hs=>by have hc9:=zDW B o r W hs hr1 hr2 v z hv;rw [zBt hz] at hc9;exact hc9)
       exact (zKR w0 p_EE B R hB z _ _ _ _ w N0 H1 H2 H3).mono λe w' h=>⟨h.1,λh9=>absurd h9 hz,h.2⟩
   · have H2:Hid (zAI w0 B R (zAT B) 67 (.iface 25 (.int .i64 q)) (TkB B o ts) (TrB B o r)):=hI (zAx (λ_ _ h hb=>h.on hb) hRB hB λW hW hs=>by have hc9:=zGH B o ts W hs hl1 (λt ht=>(hl2 t ht).to (by decide)) r q hp1;rw [zBt hq] at hc9;exact hc9)
     rw [if_neg hq] at h;obtain rfl:=((Prod.mk.injEq _ _ _ _).mp h).2;exact (zKe w0 p_EE B R hB _ _ _ _ w N0 H1 H2).mono λe w' h=>⟨h.1,λh9=>absurd h9 hq,h.2⟩
 · have H1:Hid (zAI w0 B R (zAT B) 66 (.iface 25 (.int .i64 er)) (TxB B s o) (TkB B o ts)):=hI (zAx (λ_ _ h hb=>h.on hb) hRB hB λW hW hs=>by have hc9:=zOU B s o W hs p_s ts kk er hl (p_E.to hW);rw [zBt h0] at hc9;exact hc9)
   rw [if_neg h0] at hrd;rw [zCW hrd,if_neg h0] at h;obtain rfl:=((Prod.mk.injEq _ _ _ _).mp h).2;exact (zKN w0 p_EE B R hB _ _ _ w N0 H1).mono λe w' h=>⟨h.1,λh9=>absurd h9 h0,h.2⟩
theorem zMJ (w0:World) (p_EE:EvE w0) (B R:Nat) (v:List Nd) (o:ByteArray) (w:World) (hb0:Below w0.heap.size w0 w) (hB:w0.heap.size<=B) (hp:TrB B o v w) (hR:w.heap[R]?=some (.cells (zAM B) 87 (0,0))) (hRB:R≠B) (hv1:v.length<=9223372036854775807) (hv2:v.length<=512->∀m∈v,zAy 900000 m) (p_o:o.size<=1000000) (p_T:TbH w0) (y:ByteArray) (z:Int) (h:zBO v o.data.toList=(y.data.toList,z)) :
 Calls prog 62 #[.slice (some ⟨R,0,none⟩) 3 3] w λe w'=>e=.returned (.int .i64 z)/\(z=0->TxB B y o w')/\Below w0.heap.size w0 w':=by
 obtain ⟨x,ze,hx⟩:∃x ze,zCS v o.data.toList=(x,ze):=⟨_,_,rfl⟩;obtain ⟨hx1,hx2⟩:=zJU hx hv2;have N0:Hid (Mkx w0 B R (zAM B) (TrB B o v) w):=hI ⟨hb0,hp,hR,hp.lt⟩
 by_cases h0:ze=0
 · subst h0
   have H1:Hid (zAI w0 B R (zAM B) 63 .nilIface (TrB B o v) (TrB B o x)):=hI (zAx (λ_ _ h hb=>h.on hb) hRB hB λW hW hs=>zJy B o v W hs hv1 hv2 p_o x 0 hx (p_T.to hW));obtain ⟨tt,zf,ht⟩:∃tt zf,zA1 x=(tt,zf):=⟨_,_,rfl⟩;rw [zFe hx ht] at h
   by_cases hf:zf=0
   · subst hf
     have H2:Hid (zAI w0 B R (zAM B) 64 .nilIface (TrB B o x) (TkB B o tt)):=hI (zAx (λ_ _ h hb=>h.on hb) hRB hB λW hW hs=>zGD B o x W hs (by omega) (λ_=>hx2) tt 0 ht);rw [if_pos rfl] at h;obtain ⟨ht1,ht2⟩:=zFT ht hx2
     by_cases hz:z=0
     · subst hz
       have H3:Hid (zAI w0 B R (zAM B) 65 .nilIface (TkB B o tt) (TxB B y o)):=hI (zAx (λ_ _ h hb=>h.on hb) hRB hB λW hW hs=>zJu B o tt W hs ht1 ht2 y 0 h);exact (zI0 w0 p_EE B R hB _ _ _ _ w N0 H1 H2 H3).mono λe w' h=>⟨h.1,λ_=>h.2.1,h.2.2⟩
     · have H3:Hid (zAI w0 B R (zAM B) 65 (.iface 25 (.int .i64 z)) (TkB B o tt) (TxB B y o)):=hI (zAx (λ_ _ h hb=>h.on hb) hRB hB λW hW hs=>by have hc9:=zJu B o tt W hs ht1 ht2 y z h;rw [zBt hz] at hc9;exact hc9)
       exact (zIT w0 p_EE B R hB z _ _ _ _ w N0 H1 H2 H3).mono λe w' h=>⟨h.1,λh9=>absurd h9 hz,h.2⟩
   · have H2:Hid (zAI w0 B R (zAM B) 64 (.iface 25 (.int .i64 zf)) (TrB B o x) (TkB B o tt)):=hI (zAx (λ_ _ h hb=>h.on hb) hRB hB λW hW hs=>by have hc9:=zGD B o x W hs (by omega) (λ_=>hx2) tt zf ht;rw [zBt hf] at hc9;exact hc9)
     rw [if_neg hf] at h;obtain rfl:=((Prod.mk.injEq _ _ _ _).mp h).2;exact (zI4 w0 p_EE B R hB _ _ _ _ w N0 H1 H2).mono λe w' h=>⟨h.1,λh9=>absurd h9 hf,h.2⟩
 · have H1:Hid (zAI w0 B R (zAM B) 63 (.iface 25 (.int .i64 ze)) (TrB B o v) (TrB B o x)):=hI (zAx (λ_ _ h hb=>h.on hb) hRB hB λW hW hs=>by have hc9:=zJy B o v W hs hv1 hv2 p_o x ze hx (p_T.to hW);rw [zBt h0] at hc9;exact hc9)
   rw [zBz hx,if_neg h0] at h;obtain rfl:=((Prod.mk.injEq _ _ _ _).mp h).2;exact (zIO w0 p_EE B R hB _ _ _ w N0 H1).mono λe w' h=>⟨h.1,λh9=>absurd h9 h0,h.2⟩
theorem zMU (w0:World) (p_EE:EvE w0) (B R:Nat) (s:ByteArray) (w:World) (hb0:Below w0.heap.size w0 w) (hB:w0.heap.size<=B) (hp:TxB B s ⟨#[]⟩ w) (hR:w.heap[R]?=some (.cells (zAC B) 87 (0,0))) (hRB:R≠B) (p_s:s.size<=1000000) (p_E:Ev9 w0) (p_T:TbH w0) (y:ByteArray) (z:Int) (h:zA9 s.data.toList=(y.data.toList,z)) :
 Calls prog 62 #[.slice (some ⟨R,0,none⟩) 6 6] w λe w'=>e=.returned (.int .i64 z)/\(z=0->TxB B y ⟨#[]⟩ w')/\Below w0.heap.size w0 w':=by
 have p_o:(⟨#[]⟩:ByteArray).size<=1000000:=by decide
 obtain ⟨ts,kk,er,hl⟩:∃ts kk er,lexR s.data.toList=(ts,kk,er):=⟨_,_,_,rfl⟩;have hrd:=zDF hl;obtain ⟨hl1,hl2⟩:=zI7 hl;have N0:Hid (Mkx w0 B R (zAC B) (TxB B s ⟨#[]⟩) w):=hI ⟨hb0,hp,hR,hp.lt⟩
 by_cases h0:er=0
 · subst h0
   have H1:Hid (zAI w0 B R (zAC B) 66 .nilIface (TxB B s ⟨#[]⟩) (TkB B ⟨#[]⟩ ts)):=hI (zAx (λ_ _ h hb=>h.on hb) hRB hB λW hW hs=>zOU B s ⟨#[]⟩ W hs p_s ts kk 0 hl (p_E.to hW));rw [if_pos rfl] at hrd;obtain ⟨r,q,hp1⟩:∃r q,zBE ts=(r,q):=⟨_,_,rfl⟩;rw [hp1] at hrd;have hrr:=zCW hrd
   by_cases hq:q=0
   · subst hq
     have H2:Hid (zAI w0 B R (zAC B) 67 .nilIface (TkB B ⟨#[]⟩ ts) (TrB B ⟨#[]⟩ r)):=hI (zAx (λ_ _ h hb=>h.on hb) hRB hB λW hW hs=>zGH B ⟨#[]⟩ ts W hs hl1 (λt ht=>(hl2 t ht).to (by decide)) r 0 hp1);rw [if_pos rfl] at hrr;have hr1:=zEA hp1;have hr2:∀m∈r,zAy 900000 m:=λm hm=>(zEk hp1 hl2 m hm).up (by decide)
     obtain ⟨v,zv,hv⟩:∃v zv,zA5 r=(v,zv):=⟨_,_,rfl⟩;rw [hv] at hrr;rw [zCV hrr] at h
     by_cases hzv:zv=0
     · subst hzv
       have H3:Hid (zAI w0 B R (zAC B) 68 .nilIface (TrB B ⟨#[]⟩ r) (TrB B ⟨#[]⟩ v)):=hI (zAx (λ_ _ h hb=>h.on hb) hRB hB λW hW hs=>zDW B ⟨#[]⟩ r W hs hr1 hr2 v 0 hv);rw [if_pos rfl] at h;obtain ⟨hv0,hv3⟩:=zHG hrr;have hv1:v.length<=9223372036854775807:=by omega
       have hv2:v.length<=512->∀m∈v,zAy 900000 m:=λ_ m hm=>(hv3 m hm).up (by decide)
       obtain ⟨x,ze,hx⟩:∃x ze,zCS v (⟨#[]⟩:ByteArray).data.toList=(x,ze):=⟨_,_,rfl⟩;obtain ⟨hx1,hx2⟩:=zJU hx hv2
       by_cases h1:ze=0
       · subst h1
         have H4:Hid (zAI w0 B R (zAC B) 63 .nilIface (TrB B ⟨#[]⟩ v) (TrB B ⟨#[]⟩ x)):=hI (zAx (λ_ _ h hb=>h.on hb) hRB hB λW hW hs=>zJy B ⟨#[]⟩ v W hs hv1 hv2 p_o x 0 hx (p_T.to hW));obtain ⟨tt,zf,ht⟩:∃tt zf,zA1 x=(tt,zf):=⟨_,_,rfl⟩;have h:=(zFe hx ht).symm.trans h
         by_cases hf:zf=0
         · subst hf
           have H5:Hid (zAI w0 B R (zAC B) 64 .nilIface (TrB B ⟨#[]⟩ x) (TkB B ⟨#[]⟩ tt)):=hI (zAx (λ_ _ h hb=>h.on hb) hRB hB λW hW hs=>zGD B ⟨#[]⟩ x W hs (by omega) (λ_=>hx2) tt 0 ht);rw [if_pos rfl] at h;obtain ⟨ht1,ht2⟩:=zFT ht hx2
           by_cases hz:z=0
           · subst hz
             have H6:Hid (zAI w0 B R (zAC B) 65 .nilIface (TkB B ⟨#[]⟩ tt) (TxB B y ⟨#[]⟩)):=hI (zAx (λ_ _ h hb=>h.on hb) hRB hB λW hW hs=>zJu B ⟨#[]⟩ tt W hs ht1 ht2 y 0 h);exact (zIi w0 p_EE B R hB _ _ _ _ _ _ _ w N0 H1 H2 H3 H4 H5 H6).mono λe w' h=>⟨h.1,λ_=>h.2.1,h.2.2⟩
           · have H6:Hid (zAI w0 B R (zAC B) 65 (.iface 25 (.int .i64 z)) (TkB B ⟨#[]⟩ tt) (TxB B y ⟨#[]⟩)):=hI (zAx (λ_ _ h hb=>h.on hb) hRB hB λW hW hs=>by have hc9:=zJu B ⟨#[]⟩ tt W hs ht1 ht2 y z h;rw [zBt hz] at hc9;exact hc9)
             exact (zJE w0 p_EE B R hB z _ _ _ _ _ _ _ w N0 H1 H2 H3 H4 H5 H6).mono λe w' h=>⟨h.1,λh9=>absurd h9 hz,h.2⟩
         · have H5:Hid (zAI w0 B R (zAC B) 64 (.iface 25 (.int .i64 zf)) (TrB B ⟨#[]⟩ x) (TkB B ⟨#[]⟩ tt)):=hI (zAx (λ_ _ h hb=>h.on hb) hRB hB λW hW hs=>by have hc9:=zGD B ⟨#[]⟩ x W hs (by omega) (λ_=>hx2) tt zf ht;rw [zBt hf] at hc9;exact hc9)
           rw [if_neg hf] at h;obtain rfl:=((Prod.mk.injEq _ _ _ _).mp h).2;exact (zIl w0 p_EE B R hB _ _ _ _ _ _ _ w N0 H1 H2 H3 H4 H5).mono λe w' h=>⟨h.1,λh9=>absurd h9 hf,h.2⟩
       · have H4:Hid (zAI w0 B R (zAC B) 63 (.iface 25 (.int .i64 ze)) (TrB B ⟨#[]⟩ v) (TrB B ⟨#[]⟩ x)):=hI (zAx (λ_ _ h hb=>h.on hb) hRB hB λW hW hs=>by have hc9:=zJy B ⟨#[]⟩ v W hs hv1 hv2 p_o x ze hx (p_T.to hW);rw [zBt h1] at hc9;exact hc9)
         have h:=(zBz hx).symm.trans h;rw [if_neg h1] at h;obtain rfl:=((Prod.mk.injEq _ _ _ _).mp h).2;exact (zIz w0 p_EE B R hB _ _ _ _ _ _ w N0 H1 H2 H3 H4).mono λe w' h=>⟨h.1,λh9=>absurd h9 h1,h.2⟩
     · have H3:Hid (zAI w0 B R (zAC B) 68 (.iface 25 (.int .i64 zv)) (TrB B ⟨#[]⟩ r) (TrB B ⟨#[]⟩ v)):=hI (zAx (λ_ _ h hb=>h.on hb) hRB hB λW hW hs=>by have hc9:=zDW B ⟨#[]⟩ r W hs hr1 hr2 v zv hv;rw [zBt hzv] at hc9;exact hc9)
       rw [if_neg hzv] at h;obtain rfl:=((Prod.mk.injEq _ _ _ _).mp h).2;exact (zIV w0 p_EE B R hB _ _ _ _ _ w N0 H1 H2 H3).mono λe w' h=>⟨h.1,λh9=>absurd h9 hzv,h.2⟩
   · have H2:Hid (zAI w0 B R (zAC B) 67 (.iface 25 (.int .i64 q)) (TkB B ⟨#[]⟩ ts) (TrB B ⟨#[]⟩ r)):=hI (zAx (λ_ _ h hb=>h.on hb) hRB hB λW hW hs=>by have hc9:=zGH B ⟨#[]⟩ ts W hs hl1 (λt ht=>(hl2 t ht).to (by decide)) r q hp1;rw [zBt hq] at hc9;exact hc9)
     rw [if_neg hq] at hrr;rw [zCV hrr,if_neg hq] at h;obtain rfl:=((Prod.mk.injEq _ _ _ _).mp h).2;exact (zIS w0 p_EE B R hB _ _ _ _ w N0 H1 H2).mono λe w' h=>⟨h.1,λh9=>absurd h9 hq,h.2⟩
 · have H1:Hid (zAI w0 B R (zAC B) 66 (.iface 25 (.int .i64 er)) (TxB B s ⟨#[]⟩) (TkB B ⟨#[]⟩ ts)):=hI (zAx (λ_ _ h hb=>h.on hb) hRB hB λW hW hs=>by have hc9:=zOU B s ⟨#[]⟩ W hs p_s ts kk er hl (p_E.to hW);rw [zBt h0] at hc9;exact hc9)
   rw [if_neg h0] at hrd;have hrr:=zCW hrd;rw [if_neg h0] at hrr;rw [zCV hrr,if_neg h0] at h;obtain rfl:=((Prod.mk.injEq _ _ _ _).mp h).2;exact (zIY w0 p_EE B R hB _ _ _ w N0 H1).mono λe w' h=>⟨h.1,λh9=>absurd h9 h0,h.2⟩
theorem zDE:(prog.info? 85).map (·.size)=some 4:=by kernel_rfl
theorem zJr (s:ByteArray) (w:World) (hs:s.size<=1000000) (v:List Nd) (z:Int) (vn:Nat) (h:zBd s.data.toList=(v,z)) (hvn:v.length=vn) (hE:Ev9 w:=by first | assumption | exact Ev9.to (by assumption) (by assumption)) (hEE:EvE w:=by first | assumption | exact EvE.to (by assumption) (by assumption)) :
 Calls prog 30 #[.string s] w λe w'=>∃A c,e=.returned (.tuple #[.slice A vn c,.int .i64 z])/\RdB NdS w' A v/\Below w.heap.size w w':=by
 obtain ⟨W1,hW1⟩:∃W1,w.alloc (.cells #[.string s,.slice none 0 0,.slice none 0 0,.string ⟨#[]⟩] 85)=W1:=⟨_,rfl⟩;have hx1:W1.heap[w.heap.size]?=some (.cells #[.string s,.slice none 0 0,.slice none 0 0,.string ⟨#[]⟩] 85 (0,0)):=by rw [←hW1];exact heap_alloc_new w _
 have hb1:Below w.heap.size w W1:=by rw [←hW1];exact stpA (Below.refl _ _) _
 obtain ⟨W2,hW2⟩:∃W2,W1.alloc (.cells #[.func (.func 66) #[.pointer (some ⟨w.heap.size,0,none⟩)] #[],.func (.func 67) #[.pointer (some ⟨w.heap.size,0,none⟩)] #[],.func (.func 68) #[.pointer (some ⟨w.heap.size,0,none⟩)] #[]] 87)=W2:=⟨_,rfl⟩;have hx2:W2.heap[W1.heap.size]?=some (.cells #[.func (.func 66) #[.pointer (some ⟨w.heap.size,0,none⟩)] #[],.func (.func 67) #[.pointer (some ⟨w.heap.size,0,none⟩)] #[],.func (.func 68) #[.pointer (some ⟨w.heap.size,0,none⟩)] #[]] 87 (0,0)):=by rw [←hW2];exact heap_alloc_new W1 _
 have hb2:Below W1.heap.size W1 W2:=by rw [←hW2];exact stpA (Below.refl _ _) _
 have hlt:=zAY hx1;have HRUN:Hid (Calls prog 62 #[.slice (some ⟨W1.heap.size,0,none⟩) 3 3] W2 λe w'=>e=.returned (.int .i64 z)/\(z=0->TrB w.heap.size ⟨#[]⟩ v w')/\Below w.heap.size w w'):=hI (zOr w hEE w.heap.size W1.heap.size s ⟨#[]⟩ W2 (stp hb1 hb2) (Nat.le_refl _) ⟨none,0,0,none,0,0,zAB hx1 hb2⟩ hx2 (Nat.ne_of_gt hlt) hs hE v z h);have HVN:=hI hvn;have HZ:Hid (z≠0->v=[]):=hI (zKX h);clear h hs hE hEE hx1 hb1 hx2 hb2 hlt hvn
 by_cases hz:z=0
 · subst hz
   go_enter func30,ntmps30
   go_wp2_with (first
    | (refine wpList_store_row rfl _ _ _ rfl w.heap.size #[.string s,.slice none 0 0,.slice none 0 0,.string ⟨#[]⟩] rfl rfl 85 #[.string ⟨#[]⟩,.slice none 0 0,.slice none 0 0,.string ⟨#[]⟩] (heap_alloc_new _ _) zDE rfl (by simp [Value.oneCell']) ?_;rw [World.setRow_alloc_new,hW1])
    | (rw [hW2])
    | (go_at_call 62;(with_reducible refine (HRUN.out).mono ?_);rintro e3 w3 ⟨rfl,hs3,hb3⟩;obtain ⟨s3,a3,n3,c3,A3,d3,hp3,hr3⟩:=hs3 rfl;have HR3:=hI hr3;have HB3:=hI hb3;rw [HVN.out] at hp3;have q2:=zAA w3 w.heap.size 2 _ _ _ hp3;clear hs3 hr3 hb3 hp3)
    | fail)
   go_ret2
   exact ⟨A3,d3,rfl,HR3.out,HB3.out⟩
 · have fz:(z==0)=false:=by simp;exact hz
   obtain rfl:=HZ.out hz;obtain rfl:0=vn:=HVN.out
   go_enter func30,ntmps30
   go_wp2_with (first
    | (refine wpList_store_row rfl _ _ _ rfl w.heap.size #[.string s,.slice none 0 0,.slice none 0 0,.string ⟨#[]⟩] rfl rfl 85 #[.string ⟨#[]⟩,.slice none 0 0,.slice none 0 0,.string ⟨#[]⟩] (heap_alloc_new _ _) zDE rfl (by simp [Value.oneCell']) ?_;rw [World.setRow_alloc_new,hW1])
    | (rw [hW2])
    | (go_at_call 62;(with_reducible refine (HRUN.out).mono ?_);rintro e3 w3 ⟨rfl,hs3,hb3⟩;have HB3:=hI hb3;clear hs3 hb3)
    | fail)
   go_ret2
   exact ⟨none,0,rfl,RdS.nil _ _ _,HB3.out⟩
theorem zI9 (A:Option Addr) (n c:Nat) (v:List Nd) (o:ByteArray) (w:World) (hr:RdB NdS w A v) (hn:v.length=n) (hmax:n<=9223372036854775807) (hsm:n<=512->∀m∈v,zAy 900000 m) (ho:o.size<=1000000) (y:ByteArray) (z:Int) (h:zBO v o.data.toList=(y.data.toList,z)) (hT:TbH w:=by first | assumption | exact TbH.to (by assumption) (by assumption)) (hEE:EvE w:=by first | assumption | exact EvE.to (by assumption) (by assumption)) :
 Calls prog 27 #[.slice A n c,.string o] w λe w'=>e=.returned (.tuple #[.string y,.int .i64 z])/\Below w.heap.size w w':=by
 obtain ⟨W1,hW1⟩:∃W1,w.alloc (.cells #[.string ⟨#[]⟩,.slice none 0 0,.slice A n c,.string o] 85)=W1:=⟨_,rfl⟩;have hx1:W1.heap[w.heap.size]?=some (.cells #[.string ⟨#[]⟩,.slice none 0 0,.slice A n c,.string o] 85 (0,0)):=by rw [←hW1];exact heap_alloc_new w _
 have hb1:Below w.heap.size w W1:=by rw [←hW1];exact stpA (Below.refl _ _) _
 obtain ⟨W2,hW2⟩:∃W2,W1.alloc (.cells #[.func (.func 63) #[.pointer (some ⟨w.heap.size,0,none⟩)] #[],.func (.func 64) #[.pointer (some ⟨w.heap.size,0,none⟩)] #[],.func (.func 65) #[.pointer (some ⟨w.heap.size,0,none⟩)] #[]] 87)=W2:=⟨_,rfl⟩;have hx2:W2.heap[W1.heap.size]?=some (.cells #[.func (.func 63) #[.pointer (some ⟨w.heap.size,0,none⟩)] #[],.func (.func 64) #[.pointer (some ⟨w.heap.size,0,none⟩)] #[],.func (.func 65) #[.pointer (some ⟨w.heap.size,0,none⟩)] #[]] 87 (0,0)):=by rw [←hW2];exact heap_alloc_new W1 _
 have hb2:Below W1.heap.size W1 W2:=by rw [←hW2];exact stpA (Below.refl _ _) _
 have hlt:=zAY hx1;have HRUN:Hid (Calls prog 62 #[.slice (some ⟨W1.heap.size,0,none⟩) 3 3] W2 λe w'=>e=.returned (.int .i64 z)/\(z=0->TxB w.heap.size y o w')/\Below w.heap.size w w'):=hI (zMJ w hEE w.heap.size W1.heap.size v o W2 (stp hb1 hb2) (Nat.le_refl _) ⟨⟨#[]⟩,none,0,0,A,c,by rw [hn];exact zAB hx1 hb2,hr.on (stp hb1 hb2)⟩ hx2 (Nat.ne_of_gt hlt) (by omega) (λh5=>hsm (by omega)) ho hT y z h);have HZ:Hid (z≠0->y=⟨#[]⟩):=hI λhz=>zHU (zCo h hz)
 clear h hr hn hmax hsm ho hT hEE hx1 hb1 hx2 hb2 hlt
 by_cases hz:z=0
 · subst hz
   go_enter func27,ntmps27
   go_wp2_with (first
    | (refine wpList_store_row rfl _ _ _ rfl w.heap.size #[.string ⟨#[]⟩,.slice none 0 0,.slice A n c,.string o] rfl rfl 85 #[.string ⟨#[]⟩,.slice none 0 0,.slice none 0 0,.string ⟨#[]⟩] (heap_alloc_new _ _) zDE rfl (by simp [Value.oneCell']) ?_;rw [World.setRow_alloc_new,hW1])
    | (rw [hW2])
    | (go_at_call 62;(with_reducible refine (HRUN.out).mono ?_);rintro e3 w3 ⟨rfl,hs3,hb3⟩;obtain ⟨a3,n3,c3,A3,m3,d3,hp3⟩:=hs3 rfl;have HB3:=hI hb3;have q0:=zAA w3 w.heap.size 0 _ _ _ hp3;clear hs3 hb3 hp3)
    | fail)
   go_ret2
   exact ⟨rfl,HB3.out⟩
 · have fz:(z==0)=false:=by simp;exact hz
   obtain rfl:=HZ.out hz
   go_enter func27,ntmps27
   go_wp2_with (first
    | (refine wpList_store_row rfl _ _ _ rfl w.heap.size #[.string ⟨#[]⟩,.slice none 0 0,.slice A n c,.string o] rfl rfl 85 #[.string ⟨#[]⟩,.slice none 0 0,.slice none 0 0,.string ⟨#[]⟩] (heap_alloc_new _ _) zDE rfl (by simp [Value.oneCell']) ?_;rw [World.setRow_alloc_new,hW1])
    | (rw [hW2])
    | (go_at_call 62;(with_reducible refine (HRUN.out).mono ?_);rintro e3 w3 ⟨rfl,hs3,hb3⟩;have HB3:=hI hb3;clear hs3 hb3)
    | fail)
   go_ret2
   exact ⟨rfl,HB3.out⟩
theorem zGF (s:ByteArray) (w:World) (hs:s.size<=1000000) (y:ByteArray) (z:Int) (h:zA9 s.data.toList=(y.data.toList,z)) (hE:Ev9 w:=by first | assumption | exact Ev9.to (by assumption) (by assumption)) (hT:TbH w:=by first | assumption | exact TbH.to (by assumption) (by assumption)) (hEE:EvE w:=by first | assumption | exact EvE.to (by assumption) (by assumption)) :
 Calls prog 28 #[.string s] w λe w'=>e=.returned (.tuple #[.string y,.int .i64 z])/\Below w.heap.size w w':=by
 obtain ⟨W1,hW1⟩:∃W1,w.alloc (.cells #[.string s,.slice none 0 0,.slice none 0 0,.string ⟨#[]⟩] 85)=W1:=⟨_,rfl⟩;have hx1:W1.heap[w.heap.size]?=some (.cells #[.string s,.slice none 0 0,.slice none 0 0,.string ⟨#[]⟩] 85 (0,0)):=by rw [←hW1];exact heap_alloc_new w _
 have hb1:Below w.heap.size w W1:=by rw [←hW1];exact stpA (Below.refl _ _) _
 obtain ⟨W2,hW2⟩:∃W2,W1.alloc (.cells #[.func (.func 66) #[.pointer (some ⟨w.heap.size,0,none⟩)] #[],.func (.func 67) #[.pointer (some ⟨w.heap.size,0,none⟩)] #[],.func (.func 68) #[.pointer (some ⟨w.heap.size,0,none⟩)] #[],.func (.func 63) #[.pointer (some ⟨w.heap.size,0,none⟩)] #[],.func (.func 64) #[.pointer (some ⟨w.heap.size,0,none⟩)] #[],.func (.func 65) #[.pointer (some ⟨w.heap.size,0,none⟩)] #[]] 87)=W2:=⟨_,rfl⟩;have hx2:W2.heap[W1.heap.size]?=some (.cells #[.func (.func 66) #[.pointer (some ⟨w.heap.size,0,none⟩)] #[],.func (.func 67) #[.pointer (some ⟨w.heap.size,0,none⟩)] #[],.func (.func 68) #[.pointer (some ⟨w.heap.size,0,none⟩)] #[],.func (.func 63) #[.pointer (some ⟨w.heap.size,0,none⟩)] #[],.func (.func 64) #[.pointer (some ⟨w.heap.size,0,none⟩)] #[],.func (.func 65) #[.pointer (some ⟨w.heap.size,0,none⟩)] #[]] 87 (0,0)):=by rw [←hW2];exact heap_alloc_new W1 _
 have hb2:Below W1.heap.size W1 W2:=by rw [←hW2];exact stpA (Below.refl _ _) _
 have hlt:=zAY hx1;have HRUN:Hid (Calls prog 62 #[.slice (some ⟨W1.heap.size,0,none⟩) 6 6] W2 λe w'=>e=.returned (.int .i64 z)/\(z=0->TxB w.heap.size y ⟨#[]⟩ w')/\Below w.heap.size w w'):=hI (zMU w hEE w.heap.size W1.heap.size s W2 (stp hb1 hb2) (Nat.le_refl _) ⟨none,0,0,none,0,0,zAB hx1 hb2⟩ hx2 (Nat.ne_of_gt hlt) hs hE hT y z h);have HZ:Hid (z≠0->y=⟨#[]⟩):=hI λhz=>zHU (zFG h hz)
 clear h hs hE hT hEE hx1 hb1 hx2 hb2 hlt
 by_cases hz:z=0
 · subst hz
   go_enter func28,ntmps28
   go_wp2_with (first
    | (refine wpList_store_row rfl _ _ _ rfl w.heap.size #[.string s,.slice none 0 0,.slice none 0 0,.string ⟨#[]⟩] rfl rfl 85 #[.string ⟨#[]⟩,.slice none 0 0,.slice none 0 0,.string ⟨#[]⟩] (heap_alloc_new _ _) zDE rfl (by simp [Value.oneCell']) ?_;rw [World.setRow_alloc_new,hW1])
    | (rw [hW2])
    | (go_at_call 62;(with_reducible refine (HRUN.out).mono ?_);rintro e3 w3 ⟨rfl,hs3,hb3⟩;obtain ⟨a3,n3,c3,A3,m3,d3,hp3⟩:=hs3 rfl;have HB3:=hI hb3;have q0:=zAA w3 w.heap.size 0 _ _ _ hp3;clear hs3 hb3 hp3)
    | fail)
   go_ret2
   exact ⟨rfl,HB3.out⟩
 · have fz:(z==0)=false:=by simp;exact hz
   obtain rfl:=HZ.out hz
   go_enter func28,ntmps28
   go_wp2_with (first
    | (refine wpList_store_row rfl _ _ _ rfl w.heap.size #[.string s,.slice none 0 0,.slice none 0 0,.string ⟨#[]⟩] rfl rfl 85 #[.string ⟨#[]⟩,.slice none 0 0,.slice none 0 0,.string ⟨#[]⟩] (heap_alloc_new _ _) zDE rfl (by simp [Value.oneCell']) ?_;rw [World.setRow_alloc_new,hW1])
    | (rw [hW2])
    | (go_at_call 62;(with_reducible refine (HRUN.out).mono ?_);rintro e3 w3 ⟨rfl,hs3,hb3⟩;have HB3:=hI hb3;clear hs3 hb3)
    | fail)
   go_ret2
   exact ⟨rfl,HB3.out⟩
theorem zBu.up {m:Nat} {n:Nd} (h:zBu m n) (hm:m<20000):zAy m n :=
 ⟨by have:=h.space;omega,by have:=h.name;omega,by have:=h.text;omega,by have:=h.attrs;omega,λa ha=>by obtain ⟨h1,h2,h3⟩:=h.each a ha;exact ⟨by omega,by omega,by omega⟩⟩
theorem is12 (s x:ByteArray) (w:World) (hs:s.size<=1000000) (h:zA9 s.data.toList=(x.data.toList,0)) (hE:Ev9 w:=by first | assumption | exact Ev9.to (by assumption) (by assumption)) (hT:TbH w:=by first | assumption | exact TbH.to (by assumption) (by assumption)) (hEE:EvE w:=by first | assumption | exact EvE.to (by assumption) (by assumption)) :
 Calls prog 26 #[.string s,.string x] w λe w'=>e=.returned (.bool true)/\Below w.heap.size w w':=by
 have HC:=hI (zGF s w hs x 0 h);clear h hs hE hT hEE
 go_enter func26,ntmps26
 go_wp2_with (first
  | (go_at_call 28;(with_reducible refine (HC.out).mono ?_);rintro e1 w1 ⟨rfl,hb1⟩;have HB1:=hI hb1;clear hb1)
  | fail)
 go_ret
 exact ⟨rfl,HB1.out⟩
theorem zOJ (s:ByteArray) (z:Int) (w:World) (hs:s.size<=1000000) (h1:zBd s.data.toList=([],z)) (h2:zA9 s.data.toList=([],z)) (hE:Ev9 w:=by first | assumption | exact Ev9.to (by assumption) (by assumption)) (hT:TbH w:=by first | assumption | exact TbH.to (by assumption) (by assumption)) (hEE:EvE w:=by first | assumption | exact EvE.to (by assumption) (by assumption)) :
 Calls prog 25 #[.string s,.int .i64 z] w λe w'=>e=.returned (.bool true)/\Below w.heap.size w w':=by
 have HR:=hI (zJr s w hs [] z 0 h1 rfl);have HC:Hid (∀W,Below w.heap.size w W->Calls prog 28 #[.string s] W λe w'=>e=.returned (.tuple #[.string ⟨#[]⟩,.int .i64 z])/\Below W.heap.size W w'):=hI λW hW=>zGF s W hs ⟨#[]⟩ z h2 (hE.to hW) (hT.to hW) (hEE.to hW)
 clear h1 h2 hs hE hT hEE
 go_enter func25,ntmps25
 go_wp2_with (first
  | (go_at_call 30;(with_reducible refine (HR.out).mono ?_);rintro e1 w1 ⟨A1,c1,rfl,hr1,hb1⟩;have HB1:=hI hb1;clear hr1 hb1)
  | (go_at_call 28;(with_reducible refine (HC.out w1 HB1.out).mono ?_);rintro e2 w2 ⟨rfl,hb2⟩;have HB2:=hI (stp HB1.out hb2);clear hb2)
  | fail)
 go_ret
 exact ⟨rfl,HB2.out⟩
def zQb:ByteArray:=⟨#[60,112,58,97,32,120,109,108,110,115,58,112,61,39,117,39,32,62,60,112,58,98,32,62,60,47,112,58,98,62,60,47,112,58,97,62]⟩
def zQ4:ByteArray:=⟨#[60,97,32,120,109,108,110,115,61,34,117,34,62,60,98,47,62,60,47,97,62]⟩
theorem al12:zA9 zQb.data.toList=(zQ4.data.toList,0):=by decide +kernel
theorem zIP (w:World) (hE:Ev9 w:=by first | assumption | exact Ev9.to (by assumption) (by assumption)) (hT:TbH w:=by first | assumption | exact TbH.to (by assumption) (by assumption)) (hEE:EvE w:=by first | assumption | exact EvE.to (by assumption) (by assumption)) :
 Calls prog 29 #[] w λe w'=>e=.returned (.bool true)/\Below w.heap.size w w':=by
 have HI:=hI (is12 zQb zQ4 w (by decide) al12);unfold zQb zQ4 at HI;clear hE hT hEE
 go_enter func29,ntmps29
 go_wp2_with (first
  | (go_at_call 26;(with_reducible refine (HI.out).mono ?_);rintro e1 w1 ⟨rfl,hb1⟩;have HB1:=hI hb1;clear hb1)
  | fail)
 go_ret
 exact ⟨rfl,HB1.out⟩
end Hx
end Go.Proofs.YtlgppednjkbgiaaGreatDoor
