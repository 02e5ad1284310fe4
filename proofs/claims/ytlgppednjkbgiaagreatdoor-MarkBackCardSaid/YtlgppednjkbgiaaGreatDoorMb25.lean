/- Texts put together. -/
import Derived.Test.YtlgppednjkbgiaaGreatDoorMbA
import Derived.Test.YtlgppednjkbgiaaGreatDoorMb24
import Derived.Test.YtlgppednjkbgiaaGreatDoorMb07
import Derived.Handy
import Derived.Test.YtlgppednjkbgiaaGreatDoorMb16
set_option maxRecDepth 100000
set_option maxHeartbeats 16000000
set_option linter.unusedVariables false
set_option linter.unusedSimpArgs false
namespace Go.Proofs.YtlgppednjkbgiaaGreatDoor
open Go.RowKit Go.Proofs.Tryz
section
open Go.RowKit Go.Extern.Stop Go.Stop Go.Extern
namespace Hx
theorem zRS (z:Sem Value) (f:TypeId->Addr->Nat->Nat->Sem Value) (v:Value) :
 ReflectliteValue.method z f #[v]=(do match ←ReflectliteValue.parts v with | none=>z | some (t,a,fl)=>f t a fl (fl % 32)):=rfl
theorem zPQ (a:Addr) (w:World):(ReflectliteValue.parts (.agg #[.pointer (some ⟨9,120,none⟩),.pointer (some a),.int .u64 150])).run prog w=.ok (some (120,a,150)) w:=by kernel_rfl
theorem zRR (a p:Addr) (W:World) (ha:W.cell? a=some (.pointer (some p))) :
 (ReflectliteValue.method (ReflectliteValue.valueError "reflectlite.Value.IsNil" 0) ReflectliteValue.isNil #[.agg #[.pointer (some ⟨9, 120, none⟩), .pointer (some a), .int .u64 150]]).run prog W = .ok (.bool false) W := by
 rw [zRS];simp only [Sem.run_bind,zPQ,Result.andThen]
 simp [ReflectliteValue.isNil,loadVar,isAgg,underlying,underlying120,ha,Result.andThen]
theorem zQv (w:World):(Rtype.elem? 120).run prog w=.ok (some 25) w:=by kernel_rfl
theorem mkE (p:Addr) (w:World):(ReflectliteValue.mk 25 p ReflectliteValue.flagAddr).run prog w=.ok (.agg #[.pointer (some ⟨9,25,none⟩),.pointer (some p),.int .u64 386]) w:=by kernel_rfl
theorem zRr (a p:Addr) (W:World) (ha:W.cell? a=some (.pointer (some p))) :
 (ReflectliteValue.method (ReflectliteValue.valueError "reflectlite.Value.Elem" 0) ReflectliteValue.elem #[.agg #[.pointer (some ⟨9, 120, none⟩), .pointer (some a), .int .u64 150]]).run prog W
  =.ok (.agg #[.pointer (some ⟨9,25,none⟩),.pointer (some p),.int .u64 386]) W:=by
 rw [zRS];simp only [Sem.run_bind,zPQ,Result.andThen]
 simp [ReflectliteValue.elem,loadVar,isAgg,underlying,underlying120,ha,Result.andThen,zQv,mkE]
theorem zSM (v x:Value):ReflectliteValue.set #[v,x]=(do
 let (some (dst,a,fl),some (src,b,_)):=(←ReflectliteValue.parts v,←ReflectliteValue.parts x)
  | unsupported (.noEntry "extern/(internal/reflectlite.Value).Set.zeroValue")
 if fl / ReflectliteValue.flagAddr % 2 == 0 then unsupported (.noEntry "extern/(internal/reflectlite.Value).Set.unaddressable")
 let val ←loadVar src b
 if ←Rtype.directlyAssignable dst src then storeVar dst a val
 else if ←Rtype.implements dst src then
  if (←Rtype.kind src)==20 then
   match val with
   | .nilIface => unsupported (.noEntry "extern/reflectlite: a nil value of one interface type handed on as a value of another")
   | _=>storeVar dst a val
  else storeVar dst a (.iface src val)
 else panicString ("reflectlite.Set: value of type " ++ (← Rtype.spelt src) ++ " is not assignable to type " ++ (← Rtype.spelt dst))
 pure (.tuple #[])):=rfl
theorem zQX (a:Addr) (w:World):(ReflectliteValue.parts (.agg #[.pointer (some ⟨9,25,none⟩),.pointer (some a),.int .u64 386])).run prog w=.ok (some (25,a,386)) w:=by kernel_rfl
theorem zRe (a:Addr) (w:World):(ReflectliteValue.parts (.agg #[.pointer (some ⟨9,25,none⟩),.pointer (some a),.int .u64 130])).run prog w=.ok (some (25,a,130)) w:=by kernel_rfl
theorem zQl (w:World):(Rtype.directlyAssignable 25 25).run prog w=.ok true w:=by kernel_rfl
theorem setE (ta b:Addr) (z:Int) (old:Value) (W:World) (hb:W.cell? b=some (.int .i64 z)) (ht:W.cell? ta=some old) (hf:W.frozen? ta=false) :
 (ReflectliteValue.set #[.agg #[.pointer (some ⟨9,25,none⟩),.pointer (some ta),.int .u64 386],.agg #[.pointer (some ⟨9,25,none⟩),.pointer (some b),.int .u64 130]]).run prog W
  =.ok (.tuple #[]) (W.setCell ta (.int .i64 z)):=by
 rw [zSM];simp only [Sem.run_bind,zQX,zRe,Result.andThen]
 simp [ReflectliteValue.flagAddr,loadVar,isAgg,underlying,underlying25,hb,Result.andThen,zQl,storeVar,Value.cells,storeCells,Addr.add]
 rw [run_store prog W ta _ _ (by rfl)]
 simp [ht,hf]
theorem zSO (h : Value) (w : World) : (Go.method 427 192 (.agg #[h]) "Kind").run prog w = .ok (294, h) w := by kernel_rfl
theorem zSF (h : Value) (w : World) : (Go.method 427 192 (.agg #[h]) "Elem").run prog w = .ok (305, .agg #[h]) w := by kernel_rfl
theorem zSR (h : Value) (w : World) : (Go.method 427 192 (.agg #[h]) "Implements").run prog w = .ok (306, .agg #[h]) w := by kernel_rfl
theorem zSE (h : Value) (w : World) : (Go.method 427 192 (.agg #[h]) "AssignableTo").run prog w = .ok (303, .agg #[h]) w := by kernel_rfl
theorem zRW (z:Int) (t:Addr) (old:Value) (w:World) (hg:w.cell? ⟨0,0,none⟩=some (.iface 192 (.agg #[.pointer (some ⟨9,119,none⟩)]))) (ht0:w.cell? t=some old) (hf0:w.frozen? t=false) :
 Calls prog 99 #[.iface 25 (.int .i64 z),.iface 120 (.pointer (some t))] w λev w'=>ev=.returned (.bool true)/\w'=((((w.alloc (.cells #[.pointer (some t)] 120)).alloc (.cells #[.pointer (some ⟨9,120,none⟩),.pointer (some ⟨w.heap.size,0,none⟩),.int .u64 150] 155)).alloc (.cells #[.pointer (some ⟨9,120,none⟩),.pointer (some ⟨w.heap.size,0,none⟩),.int .u64 150] 155)).alloc (.cells #[.int .i64 z] 25)).setCell t (.int .i64 z):=by
 have h6:=@run_callFunc_extern prog 131 _ (λargs=>ReflectliteValue.unpack (args.getD 0 (.tuple #[]))) func131 (by kernel_rfl) (by kernel_rfl) (by kernel_rfl) (by kernel_rfl);have h7 := @run_callFunc_extern prog 132 _ (ReflectliteValue.methodAny (ReflectliteValue.valueError "reflectlite.Value.Type" 0) (λt _ _ _ => ReflectliteType.toType t)) func132 (by kernel_rfl) (by kernel_rfl) (by kernel_rfl) (by kernel_rfl);have h8 := @run_callFunc_extern prog 133 _ (ReflectliteValue.method (ReflectliteValue.valueError "reflectlite.Value.IsNil" 0) ReflectliteValue.isNil) func133 (by kernel_rfl) (by kernel_rfl) (by kernel_rfl) (by kernel_rfl);have h27:=@run_callFunc_extern prog 294 _ (ReflectliteType.abiMethod λt=>do pure (.int .u8 (←Rtype.kind t))) func294 (by kernel_rfl) (by kernel_rfl) (by kernel_rfl) (by kernel_rfl);have h37:=@run_callFunc_extern prog 305 _ (ReflectliteType.method ReflectliteType.elem) func305 (by kernel_rfl) (by kernel_rfl) (by kernel_rfl) (by kernel_rfl);have h38 := @run_callFunc_extern prog 306 _ (ReflectliteType.relation "Implements" ReflectliteType.implements_) func306 (by kernel_rfl) (by kernel_rfl) (by kernel_rfl) (by kernel_rfl);have h10:=@run_callFunc_extern prog 166 _ ReflectliteType.typeOf func166 (by kernel_rfl) (by kernel_rfl) (by kernel_rfl) (by kernel_rfl);have h35 := @run_callFunc_extern prog 303 _ (ReflectliteType.relation "AssignableTo" ReflectliteType.assignableTo) func303 (by kernel_rfl) (by kernel_rfl) (by kernel_rfl) (by kernel_rfl);have h11 := @run_callFunc_extern prog 167 _ (ReflectliteValue.method (ReflectliteValue.valueError "reflectlite.Value.Elem" 0) ReflectliteValue.elem) func167 (by kernel_rfl) (by kernel_rfl) (by kernel_rfl) (by kernel_rfl);have h12:=@run_callFunc_extern prog 168 _ ReflectliteValue.set func168 (by kernel_rfl) (by kernel_rfl) (by kernel_rfl) (by kernel_rfl);have tO:=oE;have mA:=zSE;have a25:=aE;have v25:=vE;have f6:=vP;have f7:=tP;have mK:=zSO;have mE:=zSF;have mI:=zSR;have k27:=kP;have k25:=kE;have e27:=eP;have i25:=iE;have n8:=zRR ⟨w.heap.size,0,none⟩ t ((w.alloc (.cells #[.pointer (some t)] 120)).alloc (.cells #[.pointer (some ⟨9,120,none⟩),.pointer (some ⟨w.heap.size,0,none⟩),.int .u64 150] 155)) (by simp);have hlt:0<w.heap.size:=World.block_lt_of_cell? (a:=⟨0,0,none⟩) w hg
 have hg2:((w.alloc (.cells #[.pointer (some t)] 120)).alloc (.cells #[.pointer (some ⟨9,120,none⟩),.pointer (some ⟨w.heap.size,0,none⟩),.int .u64 150] 155)).cell? ⟨0,0,none⟩=some (.iface 192 (.agg #[.pointer (some ⟨9,119,none⟩)])):=by
  rw [World.cell?_alloc_lt _ _ ⟨0,0,none⟩ (by first | (simp;done) | (simp;omega)),World.cell?_alloc_lt _ _ ⟨0,0,none⟩ hlt];exact hg
 have htl:t.block<w.heap.size:=by
  rcases Nat.lt_or_ge t.block w.heap.size with h | h
  · exact h
  · simp [World.cell?,Array.getElem?_eq_none h] at ht0
 have el:=zRr ⟨w.heap.size,0,none⟩ t (((w.alloc (.cells #[.pointer (some t)] 120)).alloc (.cells #[.pointer (some ⟨9,120,none⟩),.pointer (some ⟨w.heap.size,0,none⟩),.int .u64 150] 155)).alloc (.cells #[.pointer (some ⟨9,120,none⟩),.pointer (some ⟨w.heap.size,0,none⟩),.int .u64 150] 155)) (by rw [World.cell?_alloc_lt _ _ ⟨w.heap.size,0,none⟩ (by simp;omega)];simp)
 have st:=setE t ⟨w.heap.size+1+1+1,0,none⟩ z old ((((w.alloc (.cells #[.pointer (some t)] 120)).alloc (.cells #[.pointer (some ⟨9,120,none⟩),.pointer (some ⟨w.heap.size,0,none⟩),.int .u64 150] 155)).alloc (.cells #[.pointer (some ⟨9,120,none⟩),.pointer (some ⟨w.heap.size,0,none⟩),.int .u64 150] 155)).alloc (.cells #[.int .i64 z] 25))
  (by first | (rw [World.cell?_alloc_at _ _ _ _ (by simp)];done) | (rw [World.cell?_alloc_at _ _ _ _ (by simp)];rfl))
  (by rw [World.cell?_alloc_lt _ _ t (by simp;omega),World.cell?_alloc_lt _ _ t (by simp;omega),World.cell?_alloc_lt _ _ t (by simp;omega),World.cell?_alloc_lt _ _ t htl];exact ht0)
  (by rw [World.frozen?_alloc_old _ _ t (by simp;omega),World.frozen?_alloc_old _ _ t (by simp;omega),World.frozen?_alloc_old _ _ t (by simp;omega),World.frozen?_alloc_old _ _ t (Nat.ne_of_lt htl)];exact hf0)
 go_enter func99,ntmps99
 go_wp2
 refine wp_loop_rounds 1 ?_;rw [rounds_succ]
 go_wp2
 go_ret
 exact ⟨rfl,rfl⟩
def EvE (w:World):Prop:=w.cell? ⟨0,0,none⟩=some (.iface 192 (.agg #[.pointer (some ⟨9,119,none⟩)]))
theorem EvE.to {w w':World} (h:EvE w) (hb:Below w.heap.size w w'):EvE w':=(hb.cell (World.block_lt_of_cell? (a:=⟨0,0,none⟩) w h)).trans h
theorem zCq (z:Int) (g:Nat) (w:World) (hE:EvE w) (hx:w.heap[g]?=some (.cells #[.int .i64 0] 25 (0,0))) :
 Calls prog 99 #[.iface 25 (.int .i64 z),.iface 120 (.pointer (some ⟨g,0,none⟩))] w λev w'=>ev=.returned (.bool true)/\w'.cell? ⟨g,0,none⟩=some (.int .i64 z)/\Below g w w':=by
 have h0:w.cell? ⟨g,0,none⟩=some (.int .i64 0):=by rw [zAA w g 0 _ _ _ hx];rfl
 refine (zRW z ⟨g,0,none⟩ _ w hE h0 (zAZ w g 0 _ _ hx)).mono ?_;rintro ev w' ⟨rfl,rfl⟩;have hlt:=zAY hx;have hb:Below w.heap.size w ((((w.alloc (.cells #[.pointer (some ⟨g,0,none⟩)] 120)).alloc (.cells #[.pointer (some ⟨9,120,none⟩),.pointer (some ⟨w.heap.size,0,none⟩),.int .u64 150] 155)).alloc (.cells #[.pointer (some ⟨9,120,none⟩),.pointer (some ⟨w.heap.size,0,none⟩),.int .u64 150] 155)).alloc (.cells #[.int .i64 z] 25)):=stpA (stpA (stpA (stpA (Below.refl _ _) _) _) _) _;refine ⟨rfl,World.cell?_setCell_same' _ _ _ (by rw [(hb.cell hlt).trans h0];rfl),(hb.mono (Nat.le_of_lt hlt)).setCell (Nat.le_refl _) _⟩
end Hx
end
namespace Hx
open Lx Tr Tx Nmb Es Ns
def zAT (B:Nat):Array Value:=#[.func (.func 66) #[.pointer (some ⟨B,0,none⟩)] #[],.func (.func 67) #[.pointer (some ⟨B,0,none⟩)] #[],.func (.func 68) #[.pointer (some ⟨B,0,none⟩)] #[]]
def zAM (B:Nat):Array Value:=#[.func (.func 63) #[.pointer (some ⟨B,0,none⟩)] #[],.func (.func 64) #[.pointer (some ⟨B,0,none⟩)] #[],.func (.func 65) #[.pointer (some ⟨B,0,none⟩)] #[]]
def zAC (B:Nat):Array Value:=#[.func (.func 66) #[.pointer (some ⟨B,0,none⟩)] #[],.func (.func 67) #[.pointer (some ⟨B,0,none⟩)] #[],.func (.func 68) #[.pointer (some ⟨B,0,none⟩)] #[],.func (.func 63) #[.pointer (some ⟨B,0,none⟩)] #[],.func (.func 64) #[.pointer (some ⟨B,0,none⟩)] #[],.func (.func 65) #[.pointer (some ⟨B,0,none⟩)] #[]]
structure Mkx (w0:World) (B R:Nat) (row:Array Value) (S:World->Prop) (w:World):Prop where
 bel:Below w0.heap.size w0 w
 st:S w
 row:w.heap[R]?=some (.cells row 87 (0,0))
 lt:B<w.heap.size
def zAI (w0:World) (B R:Nat) (row:Array Value) (f:Nat) (v:Value) (S S':World->Prop):Prop :=
 ∀w,Mkx w0 B R row S w->Calls prog f #[.pointer (some ⟨B,0,none⟩)] (w.alloc (.cells #[.int .i64 0] 25)) λe w'=>e=.returned v/\Mkx w0 B R row S' w'∧w'.heap[w.heap.size]?=some (.cells #[.int .i64 0] 25)
theorem zAI.go {w0:World} {B R:Nat} {row:Array Value} {f:Nat} {v:Value} {S S':World->Prop} (h:zAI w0 B R row f v S S') (w:World) (hw:Mkx w0 B R row S w):Calls prog f #[.pointer (some ⟨B,0,none⟩)] (w.alloc (.cells #[.int .i64 0] 25)) λe w'=>e=.returned v/\Mkx w0 B R row S' w'∧w'.heap[w.heap.size]?=some (.cells #[.int .i64 0] 25):=h w hw
theorem zAx {w0:World} {B R:Nat} {row:Array Value} {f:Nat} {v:Value} {S S':World->Prop} (hS:∀w w',S w->Below w.heap.size w w'->S w') (hRB:R≠B) (hB:w0.heap.size<=B)
 (h:∀W,Below w0.heap.size w0 W->S W->Calls prog f #[.pointer (some ⟨B,0,none⟩)] W λe w'=>e=.returned v/\S' w'∧W.grownBy w' (some B)):zAI w0 B R row f v S S':=λw hw=>by
 have hb:Below w.heap.size w (w.alloc (.cells #[.int .i64 0] 25)):=stpA (Below.refl _ _) _;refine (h _ (stpA hw.bel _) (hS _ _ hw.st hb)).mono ?_;rintro e w' ⟨h1,h2,h3⟩;have hs:=h3.size;rw [World.size_alloc] at hs;exact ⟨h1,⟨zOz (stpA hw.bel _) h3 hB,h2,zPV h3 (zAB hw.row hb) hRB,Nat.lt_of_lt_of_le hw.lt (by omega)⟩,zPV h3 (heap_alloc_new w (.cells #[.int .i64 0] 25)) (Nat.ne_of_gt hw.lt)⟩
theorem zKN (w0:World) (hE:EvE w0) (B R:Nat) (hB:w0.heap.size<=B) (z:Int) (S0 S1:World->Prop) (w:World) (N0:Hid (Mkx w0 B R (zAT B) S0 w)) (H1:Hid (zAI w0 B R (zAT B) 66 (.iface 25 (.int .i64 z)) S0 S1)) :
 Calls prog 62 #[.slice (some ⟨R,0,none⟩) 3 3] w λe w'=>e=.returned (.int .i64 z)/\Below w0.heap.size w0 w':=by
 have HBB:=hI hB;have kr0:=zAA w R 0 _ _ _ N0.out.row;unfold zAT at kr0;clear hB
 go_enter func62,ntmps62
 go_wp2_with fail
 refine wp_loop_rounds 1 ?_;rw [rounds_succ]
 go_wp2_with (first
  | (go_at_call 66;(with_reducible refine (H1.out.go w N0.out).mono ?_);rintro e1 w1 ⟨rfl,n1,x1⟩;have N1:=hI n1;have X1:=hI x1;clear n1 x1)
  | (go_at_call 99;(with_reducible refine (zCq z w.heap.size w1 (hE.to N1.out.bel) X1.out).mono ?_);rintro e8 w8 ⟨rfl,hc8,hb8⟩;have HB8:=hI (N1.out.bel.trans (hb8.mono (Nat.le_trans HBB.out (Nat.le_of_lt N0.out.lt))));clear hb8)
  | fail)
 go_ret
 exact ⟨rfl,HB8.out⟩
theorem zKe (w0:World) (hE:EvE w0) (B R:Nat) (hB:w0.heap.size<=B) (z:Int) (S0 S1 S2:World->Prop) (w:World) (N0:Hid (Mkx w0 B R (zAT B) S0 w)) (H1:Hid (zAI w0 B R (zAT B) 66 (.nilIface) S0 S1)) (H2:Hid (zAI w0 B R (zAT B) 67 (.iface 25 (.int .i64 z)) S1 S2)) :
 Calls prog 62 #[.slice (some ⟨R,0,none⟩) 3 3] w λe w'=>e=.returned (.int .i64 z)/\Below w0.heap.size w0 w':=by
 have HBB:=hI hB;have kr0:=zAA w R 0 _ _ _ N0.out.row;unfold zAT at kr0;clear hB
 go_enter func62,ntmps62
 go_wp2_with fail
 refine wp_loop_rounds 2 ?_;rw [rounds_succ]
 go_wp2_with (first
  | (go_at_call 66;(with_reducible refine (H1.out.go w N0.out).mono ?_);rintro e1 w1 ⟨rfl,n1,x1⟩;have N1:=hI n1;have kr1:=zAA w1 R 1 _ _ _ n1.row;unfold zAT at kr1;clear n1 x1)
  | (go_at_call 99;(with_reducible refine (zAe _ _).mono ?_);rintro e7 w7 ⟨rfl,h7⟩;subst w7)
  | fail)
 rw [rounds_succ]
 go_wp2_with (first
  | (go_at_call 67;(with_reducible refine (H2.out.go w1 N1.out).mono ?_);rintro e2 w2 ⟨rfl,n2,x2⟩;have N2:=hI n2;have X2:=hI x2;clear n2 x2)
  | (go_at_call 99;(with_reducible refine (zCq z w1.heap.size w2 (hE.to N2.out.bel) X2.out).mono ?_);rintro e8 w8 ⟨rfl,hc8,hb8⟩;have HB8:=hI (N2.out.bel.trans (hb8.mono (Nat.le_trans HBB.out (Nat.le_of_lt N1.out.lt))));clear hb8)
  | fail)
 go_ret
 exact ⟨rfl,HB8.out⟩
theorem zKR (w0:World) (hE:EvE w0) (B R:Nat) (hB:w0.heap.size<=B) (z:Int) (S0 S1 S2 S3:World->Prop) (w:World) (N0:Hid (Mkx w0 B R (zAT B) S0 w)) (H1:Hid (zAI w0 B R (zAT B) 66 (.nilIface) S0 S1)) (H2:Hid (zAI w0 B R (zAT B) 67 (.nilIface) S1 S2)) (H3:Hid (zAI w0 B R (zAT B) 68 (.iface 25 (.int .i64 z)) S2 S3)) :
 Calls prog 62 #[.slice (some ⟨R,0,none⟩) 3 3] w λe w'=>e=.returned (.int .i64 z)/\Below w0.heap.size w0 w':=by
 have HBB:=hI hB;have kr0:=zAA w R 0 _ _ _ N0.out.row;unfold zAT at kr0;clear hB
 go_enter func62,ntmps62
 go_wp2_with fail
 refine wp_loop_rounds 3 ?_;rw [rounds_succ]
 go_wp2_with (first
  | (go_at_call 66;(with_reducible refine (H1.out.go w N0.out).mono ?_);rintro e1 w1 ⟨rfl,n1,x1⟩;have N1:=hI n1;have kr1:=zAA w1 R 1 _ _ _ n1.row;unfold zAT at kr1;clear n1 x1)
  | (go_at_call 99;(with_reducible refine (zAe _ _).mono ?_);rintro e7 w7 ⟨rfl,h7⟩;subst w7)
  | fail)
 rw [rounds_succ]
 go_wp2_with (first
  | (go_at_call 67;(with_reducible refine (H2.out.go w1 N1.out).mono ?_);rintro e2 w2 ⟨rfl,n2,x2⟩;have N2:=hI n2;have kr2:=zAA w2 R 2 _ _ _ n2.row;unfold zAT at kr2;clear n2 x2)
  | (go_at_call 99;(with_reducible refine (zAe _ _).mono ?_);rintro e7 w7 ⟨rfl,h7⟩;subst w7)
  | fail)
 rw [rounds_succ]
 go_wp2_with (first
  | (go_at_call 68;(with_reducible refine (H3.out.go w2 N2.out).mono ?_);rintro e3 w3 ⟨rfl,n3,x3⟩;have N3:=hI n3;have X3:=hI x3;clear n3 x3)
  | (go_at_call 99;(with_reducible refine (zCq z w2.heap.size w3 (hE.to N3.out.bel) X3.out).mono ?_);rintro e8 w8 ⟨rfl,hc8,hb8⟩;have HB8:=hI (N3.out.bel.trans (hb8.mono (Nat.le_trans HBB.out (Nat.le_of_lt N2.out.lt))));clear hb8)
  | fail)
 go_ret
 exact ⟨rfl,HB8.out⟩
theorem zKO (w0:World) (hE:EvE w0) (B R:Nat) (hB:w0.heap.size<=B) (S0 S1 S2 S3:World->Prop) (w:World) (N0:Hid (Mkx w0 B R (zAT B) S0 w)) (H1:Hid (zAI w0 B R (zAT B) 66 (.nilIface) S0 S1)) (H2:Hid (zAI w0 B R (zAT B) 67 (.nilIface) S1 S2)) (H3:Hid (zAI w0 B R (zAT B) 68 (.nilIface) S2 S3)) :
 Calls prog 62 #[.slice (some ⟨R,0,none⟩) 3 3] w λe w'=>e=.returned (.int .i64 0)/\S3 w'∧Below w0.heap.size w0 w':=by
 have HBB:=hI hB;have kr0:=zAA w R 0 _ _ _ N0.out.row;unfold zAT at kr0;clear hB
 go_enter func62,ntmps62
 go_wp2_with fail
 refine wp_loop_rounds 4 ?_;rw [rounds_succ]
 go_wp2_with (first
  | (go_at_call 66;(with_reducible refine (H1.out.go w N0.out).mono ?_);rintro e1 w1 ⟨rfl,n1,x1⟩;have N1:=hI n1;have kr1:=zAA w1 R 1 _ _ _ n1.row;unfold zAT at kr1;clear n1 x1)
  | (go_at_call 99;(with_reducible refine (zAe _ _).mono ?_);rintro e7 w7 ⟨rfl,h7⟩;subst w7)
  | fail)
 rw [rounds_succ]
 go_wp2_with (first
  | (go_at_call 67;(with_reducible refine (H2.out.go w1 N1.out).mono ?_);rintro e2 w2 ⟨rfl,n2,x2⟩;have N2:=hI n2;have kr2:=zAA w2 R 2 _ _ _ n2.row;unfold zAT at kr2;clear n2 x2)
  | (go_at_call 99;(with_reducible refine (zAe _ _).mono ?_);rintro e7 w7 ⟨rfl,h7⟩;subst w7)
  | fail)
 rw [rounds_succ]
 go_wp2_with (first
  | (go_at_call 68;(with_reducible refine (H3.out.go w2 N2.out).mono ?_);rintro e3 w3 ⟨rfl,n3,x3⟩;have N3:=hI n3;clear n3 x3)
  | (go_at_call 99;(with_reducible refine (zAe _ _).mono ?_);rintro e7 w7 ⟨rfl,h7⟩;subst w7)
  | fail)
 rw [rounds_succ]
 go_wp2_with fail
 go_ret
 exact ⟨rfl,N3.out.st,N3.out.bel⟩
theorem zIO (w0:World) (hE:EvE w0) (B R:Nat) (hB:w0.heap.size<=B) (z:Int) (S0 S1:World->Prop) (w:World) (N0:Hid (Mkx w0 B R (zAM B) S0 w)) (H1:Hid (zAI w0 B R (zAM B) 63 (.iface 25 (.int .i64 z)) S0 S1)) :
 Calls prog 62 #[.slice (some ⟨R,0,none⟩) 3 3] w λe w'=>e=.returned (.int .i64 z)/\Below w0.heap.size w0 w':=by
 have HBB:=hI hB;have kr0:=zAA w R 0 _ _ _ N0.out.row;unfold zAM at kr0;clear hB
 go_enter func62,ntmps62
 go_wp2_with fail
 refine wp_loop_rounds 1 ?_;rw [rounds_succ]
 go_wp2_with (first
  | (go_at_call 63;(with_reducible refine (H1.out.go w N0.out).mono ?_);rintro e1 w1 ⟨rfl,n1,x1⟩;have N1:=hI n1;have X1:=hI x1;clear n1 x1)
  | (go_at_call 99;(with_reducible refine (zCq z w.heap.size w1 (hE.to N1.out.bel) X1.out).mono ?_);rintro e8 w8 ⟨rfl,hc8,hb8⟩;have HB8:=hI (N1.out.bel.trans (hb8.mono (Nat.le_trans HBB.out (Nat.le_of_lt N0.out.lt))));clear hb8)
  | fail)
 go_ret
 exact ⟨rfl,HB8.out⟩
theorem zI4 (w0:World) (hE:EvE w0) (B R:Nat) (hB:w0.heap.size<=B) (z:Int) (S0 S1 S2:World->Prop) (w:World) (N0:Hid (Mkx w0 B R (zAM B) S0 w)) (H1:Hid (zAI w0 B R (zAM B) 63 (.nilIface) S0 S1)) (H2:Hid (zAI w0 B R (zAM B) 64 (.iface 25 (.int .i64 z)) S1 S2)) :
 Calls prog 62 #[.slice (some ⟨R,0,none⟩) 3 3] w λe w'=>e=.returned (.int .i64 z)/\Below w0.heap.size w0 w':=by
 have HBB:=hI hB;have kr0:=zAA w R 0 _ _ _ N0.out.row;unfold zAM at kr0;clear hB
 go_enter func62,ntmps62
 go_wp2_with fail
 refine wp_loop_rounds 2 ?_;rw [rounds_succ]
 go_wp2_with (first
  | (go_at_call 63;(with_reducible refine (H1.out.go w N0.out).mono ?_);rintro e1 w1 ⟨rfl,n1,x1⟩;have N1:=hI n1;have kr1:=zAA w1 R 1 _ _ _ n1.row;unfold zAM at kr1;clear n1 x1)
  | (go_at_call 99;(with_reducible refine (zAe _ _).mono ?_);rintro e7 w7 ⟨rfl,h7⟩;subst w7)
  | fail)
 rw [rounds_succ]
 go_wp2_with (first
  | (go_at_call 64;(with_reducible refine (H2.out.go w1 N1.out).mono ?_);rintro e2 w2 ⟨rfl,n2,x2⟩;have N2:=hI n2;have X2:=hI x2;clear n2 x2)
  | (go_at_call 99;(with_reducible refine (zCq z w1.heap.size w2 (hE.to N2.out.bel) X2.out).mono ?_);rintro e8 w8 ⟨rfl,hc8,hb8⟩;have HB8:=hI (N2.out.bel.trans (hb8.mono (Nat.le_trans HBB.out (Nat.le_of_lt N1.out.lt))));clear hb8)
  | fail)
 go_ret
 exact ⟨rfl,HB8.out⟩
theorem zIT (w0:World) (hE:EvE w0) (B R:Nat) (hB:w0.heap.size<=B) (z:Int) (S0 S1 S2 S3:World->Prop) (w:World) (N0:Hid (Mkx w0 B R (zAM B) S0 w)) (H1:Hid (zAI w0 B R (zAM B) 63 (.nilIface) S0 S1)) (H2:Hid (zAI w0 B R (zAM B) 64 (.nilIface) S1 S2)) (H3:Hid (zAI w0 B R (zAM B) 65 (.iface 25 (.int .i64 z)) S2 S3)) :
 Calls prog 62 #[.slice (some ⟨R,0,none⟩) 3 3] w λe w'=>e=.returned (.int .i64 z)/\Below w0.heap.size w0 w':=by
 have HBB:=hI hB;have kr0:=zAA w R 0 _ _ _ N0.out.row;unfold zAM at kr0;clear hB
 go_enter func62,ntmps62
 go_wp2_with fail
 refine wp_loop_rounds 3 ?_;rw [rounds_succ]
 go_wp2_with (first
  | (go_at_call 63;(with_reducible refine (H1.out.go w N0.out).mono ?_);rintro e1 w1 ⟨rfl,n1,x1⟩;have N1:=hI n1;have kr1:=zAA w1 R 1 _ _ _ n1.row;unfold zAM at kr1;clear n1 x1)
  | (go_at_call 99;(with_reducible refine (zAe _ _).mono ?_);rintro e7 w7 ⟨rfl,h7⟩;subst w7)
  | fail)
 rw [rounds_succ]
 go_wp2_with (first
  | (go_at_call 64;(with_reducible refine (H2.out.go w1 N1.out).mono ?_);rintro e2 w2 ⟨rfl,n2,x2⟩;have N2:=hI n2;have kr2:=zAA w2 R 2 _ _ _ n2.row;unfold zAM at kr2;clear n2 x2)
  | (go_at_call 99;(with_reducible refine (zAe _ _).mono ?_);rintro e7 w7 ⟨rfl,h7⟩;subst w7)
  | fail)
 rw [rounds_succ]
 go_wp2_with (first
  | (go_at_call 65;(with_reducible refine (H3.out.go w2 N2.out).mono ?_);rintro e3 w3 ⟨rfl,n3,x3⟩;have N3:=hI n3;have X3:=hI x3;clear n3 x3)
  | (go_at_call 99;(with_reducible refine (zCq z w2.heap.size w3 (hE.to N3.out.bel) X3.out).mono ?_);rintro e8 w8 ⟨rfl,hc8,hb8⟩;have HB8:=hI (N3.out.bel.trans (hb8.mono (Nat.le_trans HBB.out (Nat.le_of_lt N2.out.lt))));clear hb8)
  | fail)
 go_ret
 exact ⟨rfl,HB8.out⟩
theorem zI0 (w0:World) (hE:EvE w0) (B R:Nat) (hB:w0.heap.size<=B) (S0 S1 S2 S3:World->Prop) (w:World) (N0:Hid (Mkx w0 B R (zAM B) S0 w)) (H1:Hid (zAI w0 B R (zAM B) 63 (.nilIface) S0 S1)) (H2:Hid (zAI w0 B R (zAM B) 64 (.nilIface) S1 S2)) (H3:Hid (zAI w0 B R (zAM B) 65 (.nilIface) S2 S3)) :
 Calls prog 62 #[.slice (some ⟨R,0,none⟩) 3 3] w λe w'=>e=.returned (.int .i64 0)/\S3 w'∧Below w0.heap.size w0 w':=by
 have HBB:=hI hB;have kr0:=zAA w R 0 _ _ _ N0.out.row;unfold zAM at kr0;clear hB
 go_enter func62,ntmps62
 go_wp2_with fail
 refine wp_loop_rounds 4 ?_;rw [rounds_succ]
 go_wp2_with (first
  | (go_at_call 63;(with_reducible refine (H1.out.go w N0.out).mono ?_);rintro e1 w1 ⟨rfl,n1,x1⟩;have N1:=hI n1;have kr1:=zAA w1 R 1 _ _ _ n1.row;unfold zAM at kr1;clear n1 x1)
  | (go_at_call 99;(with_reducible refine (zAe _ _).mono ?_);rintro e7 w7 ⟨rfl,h7⟩;subst w7)
  | fail)
 rw [rounds_succ]
 go_wp2_with (first
  | (go_at_call 64;(with_reducible refine (H2.out.go w1 N1.out).mono ?_);rintro e2 w2 ⟨rfl,n2,x2⟩;have N2:=hI n2;have kr2:=zAA w2 R 2 _ _ _ n2.row;unfold zAM at kr2;clear n2 x2)
  | (go_at_call 99;(with_reducible refine (zAe _ _).mono ?_);rintro e7 w7 ⟨rfl,h7⟩;subst w7)
  | fail)
 rw [rounds_succ]
 go_wp2_with (first
  | (go_at_call 65;(with_reducible refine (H3.out.go w2 N2.out).mono ?_);rintro e3 w3 ⟨rfl,n3,x3⟩;have N3:=hI n3;clear n3 x3)
  | (go_at_call 99;(with_reducible refine (zAe _ _).mono ?_);rintro e7 w7 ⟨rfl,h7⟩;subst w7)
  | fail)
 rw [rounds_succ]
 go_wp2_with fail
 go_ret
 exact ⟨rfl,N3.out.st,N3.out.bel⟩
theorem zIY (w0:World) (hE:EvE w0) (B R:Nat) (hB:w0.heap.size<=B) (z:Int) (S0 S1:World->Prop) (w:World) (N0:Hid (Mkx w0 B R (zAC B) S0 w)) (H1:Hid (zAI w0 B R (zAC B) 66 (.iface 25 (.int .i64 z)) S0 S1)) :
 Calls prog 62 #[.slice (some ⟨R,0,none⟩) 6 6] w λe w'=>e=.returned (.int .i64 z)/\Below w0.heap.size w0 w':=by
 have HBB:=hI hB;have kr0:=zAA w R 0 _ _ _ N0.out.row;unfold zAC at kr0;clear hB
 go_enter func62,ntmps62
 go_wp2_with fail
 refine wp_loop_rounds 1 ?_;rw [rounds_succ]
 go_wp2_with (first
  | (go_at_call 66;(with_reducible refine (H1.out.go w N0.out).mono ?_);rintro e1 w1 ⟨rfl,n1,x1⟩;have N1:=hI n1;have X1:=hI x1;clear n1 x1)
  | (go_at_call 99;(with_reducible refine (zCq z w.heap.size w1 (hE.to N1.out.bel) X1.out).mono ?_);rintro e8 w8 ⟨rfl,hc8,hb8⟩;have HB8:=hI (N1.out.bel.trans (hb8.mono (Nat.le_trans HBB.out (Nat.le_of_lt N0.out.lt))));clear hb8)
  | fail)
 go_ret
 exact ⟨rfl,HB8.out⟩
theorem zIS (w0:World) (hE:EvE w0) (B R:Nat) (hB:w0.heap.size<=B) (z:Int) (S0 S1 S2:World->Prop) (w:World) (N0:Hid (Mkx w0 B R (zAC B) S0 w)) (H1:Hid (zAI w0 B R (zAC B) 66 (.nilIface) S0 S1)) (H2:Hid (zAI w0 B R (zAC B) 67 (.iface 25 (.int .i64 z)) S1 S2)) :
 Calls prog 62 #[.slice (some ⟨R,0,none⟩) 6 6] w λe w'=>e=.returned (.int .i64 z)/\Below w0.heap.size w0 w':=by
 have HBB:=hI hB;have kr0:=zAA w R 0 _ _ _ N0.out.row;unfold zAC at kr0;clear hB
 go_enter func62,ntmps62
 go_wp2_with fail
 refine wp_loop_rounds 2 ?_;rw [rounds_succ]
 go_wp2_with (first
  | (go_at_call 66;(with_reducible refine (H1.out.go w N0.out).mono ?_);rintro e1 w1 ⟨rfl,n1,x1⟩;have N1:=hI n1;have kr1:=zAA w1 R 1 _ _ _ n1.row;unfold zAC at kr1;clear n1 x1)
  | (go_at_call 99;(with_reducible refine (zAe _ _).mono ?_);rintro e7 w7 ⟨rfl,h7⟩;subst w7)
  | fail)
 rw [rounds_succ]
 go_wp2_with (first
  | (go_at_call 67;(with_reducible refine (H2.out.go w1 N1.out).mono ?_);rintro e2 w2 ⟨rfl,n2,x2⟩;have N2:=hI n2;have X2:=hI x2;clear n2 x2)
  | (go_at_call 99;(with_reducible refine (zCq z w1.heap.size w2 (hE.to N2.out.bel) X2.out).mono ?_);rintro e8 w8 ⟨rfl,hc8,hb8⟩;have HB8:=hI (N2.out.bel.trans (hb8.mono (Nat.le_trans HBB.out (Nat.le_of_lt N1.out.lt))));clear hb8)
  | fail)
 go_ret
 exact ⟨rfl,HB8.out⟩
theorem zIV (w0:World) (hE:EvE w0) (B R:Nat) (hB:w0.heap.size<=B) (z:Int) (S0 S1 S2 S3:World->Prop) (w:World) (N0:Hid (Mkx w0 B R (zAC B) S0 w)) (H1:Hid (zAI w0 B R (zAC B) 66 (.nilIface) S0 S1)) (H2:Hid (zAI w0 B R (zAC B) 67 (.nilIface) S1 S2)) (H3:Hid (zAI w0 B R (zAC B) 68 (.iface 25 (.int .i64 z)) S2 S3)) :
 Calls prog 62 #[.slice (some ⟨R,0,none⟩) 6 6] w λe w'=>e=.returned (.int .i64 z)/\Below w0.heap.size w0 w':=by
 have HBB:=hI hB;have kr0:=zAA w R 0 _ _ _ N0.out.row;unfold zAC at kr0;clear hB
 go_enter func62,ntmps62
 go_wp2_with fail
 refine wp_loop_rounds 3 ?_;rw [rounds_succ]
 go_wp2_with (first
  | (go_at_call 66;(with_reducible refine (H1.out.go w N0.out).mono ?_);rintro e1 w1 ⟨rfl,n1,x1⟩;have N1:=hI n1;have kr1:=zAA w1 R 1 _ _ _ n1.row;unfold zAC at kr1;clear n1 x1)
  | (go_at_call 99;(with_reducible refine (zAe _ _).mono ?_);rintro e7 w7 ⟨rfl,h7⟩;subst w7)
  | fail)
 rw [rounds_succ]
 go_wp2_with (first
  | (go_at_call 67;(with_reducible refine (H2.out.go w1 N1.out).mono ?_);rintro e2 w2 ⟨rfl,n2,x2⟩;have N2:=hI n2;have kr2:=zAA w2 R 2 _ _ _ n2.row;unfold zAC at kr2;clear n2 x2)
  | (go_at_call 99;(with_reducible refine (zAe _ _).mono ?_);rintro e7 w7 ⟨rfl,h7⟩;subst w7)
  | fail)
 rw [rounds_succ]
 go_wp2_with (first
  | (go_at_call 68;(with_reducible refine (H3.out.go w2 N2.out).mono ?_);rintro e3 w3 ⟨rfl,n3,x3⟩;have N3:=hI n3;have X3:=hI x3;clear n3 x3)
  | (go_at_call 99;(with_reducible refine (zCq z w2.heap.size w3 (hE.to N3.out.bel) X3.out).mono ?_);rintro e8 w8 ⟨rfl,hc8,hb8⟩;have HB8:=hI (N3.out.bel.trans (hb8.mono (Nat.le_trans HBB.out (Nat.le_of_lt N2.out.lt))));clear hb8)
  | fail)
 go_ret
 exact ⟨rfl,HB8.out⟩
theorem zIz (w0:World) (hE:EvE w0) (B R:Nat) (hB:w0.heap.size<=B) (z:Int) (S0 S1 S2 S3 S4:World->Prop) (w:World) (N0:Hid (Mkx w0 B R (zAC B) S0 w)) (H1:Hid (zAI w0 B R (zAC B) 66 (.nilIface) S0 S1)) (H2:Hid (zAI w0 B R (zAC B) 67 (.nilIface) S1 S2)) (H3:Hid (zAI w0 B R (zAC B) 68 (.nilIface) S2 S3)) (H4:Hid (zAI w0 B R (zAC B) 63 (.iface 25 (.int .i64 z)) S3 S4)) :
 Calls prog 62 #[.slice (some ⟨R,0,none⟩) 6 6] w λe w'=>e=.returned (.int .i64 z)/\Below w0.heap.size w0 w':=by
 have HBB:=hI hB;have kr0:=zAA w R 0 _ _ _ N0.out.row;unfold zAC at kr0;clear hB
 go_enter func62,ntmps62
 go_wp2_with fail
 refine wp_loop_rounds 4 ?_;rw [rounds_succ]
 go_wp2_with (first
  | (go_at_call 66;(with_reducible refine (H1.out.go w N0.out).mono ?_);rintro e1 w1 ⟨rfl,n1,x1⟩;have N1:=hI n1;have kr1:=zAA w1 R 1 _ _ _ n1.row;unfold zAC at kr1;clear n1 x1)
  | (go_at_call 99;(with_reducible refine (zAe _ _).mono ?_);rintro e7 w7 ⟨rfl,h7⟩;subst w7)
  | fail)
 rw [rounds_succ]
 go_wp2_with (first
  | (go_at_call 67;(with_reducible refine (H2.out.go w1 N1.out).mono ?_);rintro e2 w2 ⟨rfl,n2,x2⟩;have N2:=hI n2;have kr2:=zAA w2 R 2 _ _ _ n2.row;unfold zAC at kr2;clear n2 x2)
  | (go_at_call 99;(with_reducible refine (zAe _ _).mono ?_);rintro e7 w7 ⟨rfl,h7⟩;subst w7)
  | fail)
 rw [rounds_succ]
 go_wp2_with (first
  | (go_at_call 68;(with_reducible refine (H3.out.go w2 N2.out).mono ?_);rintro e3 w3 ⟨rfl,n3,x3⟩;have N3:=hI n3;have kr3:=zAA w3 R 3 _ _ _ n3.row;unfold zAC at kr3;clear n3 x3)
  | (go_at_call 99;(with_reducible refine (zAe _ _).mono ?_);rintro e7 w7 ⟨rfl,h7⟩;subst w7)
  | fail)
 rw [rounds_succ]
 go_wp2_with (first
  | (go_at_call 63;(with_reducible refine (H4.out.go w3 N3.out).mono ?_);rintro e4 w4 ⟨rfl,n4,x4⟩;have N4:=hI n4;have X4:=hI x4;clear n4 x4)
  | (go_at_call 99;(with_reducible refine (zCq z w3.heap.size w4 (hE.to N4.out.bel) X4.out).mono ?_);rintro e8 w8 ⟨rfl,hc8,hb8⟩;have HB8:=hI (N4.out.bel.trans (hb8.mono (Nat.le_trans HBB.out (Nat.le_of_lt N3.out.lt))));clear hb8)
  | fail)
 go_ret
 exact ⟨rfl,HB8.out⟩
theorem zIl (w0:World) (hE:EvE w0) (B R:Nat) (hB:w0.heap.size<=B) (z:Int) (S0 S1 S2 S3 S4 S5:World->Prop) (w:World) (N0:Hid (Mkx w0 B R (zAC B) S0 w)) (H1:Hid (zAI w0 B R (zAC B) 66 (.nilIface) S0 S1)) (H2:Hid (zAI w0 B R (zAC B) 67 (.nilIface) S1 S2)) (H3:Hid (zAI w0 B R (zAC B) 68 (.nilIface) S2 S3)) (H4:Hid (zAI w0 B R (zAC B) 63 (.nilIface) S3 S4)) (H5:Hid (zAI w0 B R (zAC B) 64 (.iface 25 (.int .i64 z)) S4 S5)) :
 Calls prog 62 #[.slice (some ⟨R,0,none⟩) 6 6] w λe w'=>e=.returned (.int .i64 z)/\Below w0.heap.size w0 w':=by
 have HBB:=hI hB;have kr0:=zAA w R 0 _ _ _ N0.out.row;unfold zAC at kr0;clear hB
 go_enter func62,ntmps62
 go_wp2_with fail
 refine wp_loop_rounds 5 ?_;rw [rounds_succ]
 go_wp2_with (first
  | (go_at_call 66;(with_reducible refine (H1.out.go w N0.out).mono ?_);rintro e1 w1 ⟨rfl,n1,x1⟩;have N1:=hI n1;have kr1:=zAA w1 R 1 _ _ _ n1.row;unfold zAC at kr1;clear n1 x1)
  | (go_at_call 99;(with_reducible refine (zAe _ _).mono ?_);rintro e7 w7 ⟨rfl,h7⟩;subst w7)
  | fail)
 rw [rounds_succ]
 go_wp2_with (first
  | (go_at_call 67;(with_reducible refine (H2.out.go w1 N1.out).mono ?_);rintro e2 w2 ⟨rfl,n2,x2⟩;have N2:=hI n2;have kr2:=zAA w2 R 2 _ _ _ n2.row;unfold zAC at kr2;clear n2 x2)
  | (go_at_call 99;(with_reducible refine (zAe _ _).mono ?_);rintro e7 w7 ⟨rfl,h7⟩;subst w7)
  | fail)
 rw [rounds_succ]
 go_wp2_with (first
  | (go_at_call 68;(with_reducible refine (H3.out.go w2 N2.out).mono ?_);rintro e3 w3 ⟨rfl,n3,x3⟩;have N3:=hI n3;have kr3:=zAA w3 R 3 _ _ _ n3.row;unfold zAC at kr3;clear n3 x3)
  | (go_at_call 99;(with_reducible refine (zAe _ _).mono ?_);rintro e7 w7 ⟨rfl,h7⟩;subst w7)
  | fail)
 rw [rounds_succ]
 go_wp2_with (first
  | (go_at_call 63;(with_reducible refine (H4.out.go w3 N3.out).mono ?_);rintro e4 w4 ⟨rfl,n4,x4⟩;have N4:=hI n4;have kr4:=zAA w4 R 4 _ _ _ n4.row;unfold zAC at kr4;clear n4 x4)
  | (go_at_call 99;(with_reducible refine (zAe _ _).mono ?_);rintro e7 w7 ⟨rfl,h7⟩;subst w7)
  | fail)
 rw [rounds_succ]
 go_wp2_with (first
  | (go_at_call 64;(with_reducible refine (H5.out.go w4 N4.out).mono ?_);rintro e5 w5 ⟨rfl,n5,x5⟩;have N5:=hI n5;have X5:=hI x5;clear n5 x5)
  | (go_at_call 99;(with_reducible refine (zCq z w4.heap.size w5 (hE.to N5.out.bel) X5.out).mono ?_);rintro e8 w8 ⟨rfl,hc8,hb8⟩;have HB8:=hI (N5.out.bel.trans (hb8.mono (Nat.le_trans HBB.out (Nat.le_of_lt N4.out.lt))));clear hb8)
  | fail)
 go_ret
 exact ⟨rfl,HB8.out⟩
theorem zJE (w0:World) (hE:EvE w0) (B R:Nat) (hB:w0.heap.size<=B) (z:Int) (S0 S1 S2 S3 S4 S5 S6:World->Prop) (w:World) (N0:Hid (Mkx w0 B R (zAC B) S0 w)) (H1:Hid (zAI w0 B R (zAC B) 66 (.nilIface) S0 S1)) (H2:Hid (zAI w0 B R (zAC B) 67 (.nilIface) S1 S2)) (H3:Hid (zAI w0 B R (zAC B) 68 (.nilIface) S2 S3)) (H4:Hid (zAI w0 B R (zAC B) 63 (.nilIface) S3 S4)) (H5:Hid (zAI w0 B R (zAC B) 64 (.nilIface) S4 S5)) (H6:Hid (zAI w0 B R (zAC B) 65 (.iface 25 (.int .i64 z)) S5 S6)) :
 Calls prog 62 #[.slice (some ⟨R,0,none⟩) 6 6] w λe w'=>e=.returned (.int .i64 z)/\Below w0.heap.size w0 w':=by
 have HBB:=hI hB;have kr0:=zAA w R 0 _ _ _ N0.out.row;unfold zAC at kr0;clear hB
 go_enter func62,ntmps62
 go_wp2_with fail
 refine wp_loop_rounds 6 ?_;rw [rounds_succ]
 go_wp2_with (first
  | (go_at_call 66;(with_reducible refine (H1.out.go w N0.out).mono ?_);rintro e1 w1 ⟨rfl,n1,x1⟩;have N1:=hI n1;have kr1:=zAA w1 R 1 _ _ _ n1.row;unfold zAC at kr1;clear n1 x1)
  | (go_at_call 99;(with_reducible refine (zAe _ _).mono ?_);rintro e7 w7 ⟨rfl,h7⟩;subst w7)
  | fail)
 rw [rounds_succ]
 go_wp2_with (first
  | (go_at_call 67;(with_reducible refine (H2.out.go w1 N1.out).mono ?_);rintro e2 w2 ⟨rfl,n2,x2⟩;have N2:=hI n2;have kr2:=zAA w2 R 2 _ _ _ n2.row;unfold zAC at kr2;clear n2 x2)
  | (go_at_call 99;(with_reducible refine (zAe _ _).mono ?_);rintro e7 w7 ⟨rfl,h7⟩;subst w7)
  | fail)
 rw [rounds_succ]
 go_wp2_with (first
  | (go_at_call 68;(with_reducible refine (H3.out.go w2 N2.out).mono ?_);rintro e3 w3 ⟨rfl,n3,x3⟩;have N3:=hI n3;have kr3:=zAA w3 R 3 _ _ _ n3.row;unfold zAC at kr3;clear n3 x3)
  | (go_at_call 99;(with_reducible refine (zAe _ _).mono ?_);rintro e7 w7 ⟨rfl,h7⟩;subst w7)
  | fail)
 rw [rounds_succ]
 go_wp2_with (first
  | (go_at_call 63;(with_reducible refine (H4.out.go w3 N3.out).mono ?_);rintro e4 w4 ⟨rfl,n4,x4⟩;have N4:=hI n4;have kr4:=zAA w4 R 4 _ _ _ n4.row;unfold zAC at kr4;clear n4 x4)
  | (go_at_call 99;(with_reducible refine (zAe _ _).mono ?_);rintro e7 w7 ⟨rfl,h7⟩;subst w7)
  | fail)
 rw [rounds_succ]
 go_wp2_with (first
  | (go_at_call 64;(with_reducible refine (H5.out.go w4 N4.out).mono ?_);rintro e5 w5 ⟨rfl,n5,x5⟩;have N5:=hI n5;have kr5:=zAA w5 R 5 _ _ _ n5.row;unfold zAC at kr5;clear n5 x5)
  | (go_at_call 99;(with_reducible refine (zAe _ _).mono ?_);rintro e7 w7 ⟨rfl,h7⟩;subst w7)
  | fail)
 rw [rounds_succ]
 go_wp2_with (first
  | (go_at_call 65;(with_reducible refine (H6.out.go w5 N5.out).mono ?_);rintro e6 w6 ⟨rfl,n6,x6⟩;have N6:=hI n6;have X6:=hI x6;clear n6 x6)
  | (go_at_call 99;(with_reducible refine (zCq z w5.heap.size w6 (hE.to N6.out.bel) X6.out).mono ?_);rintro e8 w8 ⟨rfl,hc8,hb8⟩;have HB8:=hI (N6.out.bel.trans (hb8.mono (Nat.le_trans HBB.out (Nat.le_of_lt N5.out.lt))));clear hb8)
  | fail)
 go_ret
 exact ⟨rfl,HB8.out⟩
end Hx
end Go.Proofs.YtlgppednjkbgiaaGreatDoor
