/-
  The law MarkNames, walked.
-/
import Derived.Test.YtlgppednjkbgiaaGreatDoorMb26
set_option maxRecDepth 100000
set_option maxHeartbeats 16000000
set_option linter.unusedVariables false
set_option linter.unusedSimpArgs false
namespace Go.Proofs.YtlgppednjkbgiaaGreatDoor
open Go.RowKit Go.Proofs.Tryz
namespace Hx
open Lx Tr Tx Nmb Es Ns
theorem zNS:zBd (⟨#[60,97,62,0,60,47,97,62]⟩:ByteArray).data.toList=([],50)/\zA9 (⟨#[60,97,62,0,60,47,97,62]⟩:ByteArray).data.toList=([],50):=by decide +kernel
theorem zLh:zBd (⟨#[60,97,62]⟩:ByteArray).data.toList=([],80)/\zA9 (⟨#[60,97,62]⟩:ByteArray).data.toList=([],80):=by decide +kernel
theorem zNF:zBd (⟨#[60,112,58,97,47,62]⟩:ByteArray).data.toList=([],110)/\zA9 (⟨#[60,112,58,97,47,62]⟩:ByteArray).data.toList=([],110):=by decide +kernel
theorem zNm:zBd (⟨#[60,97,62,38,120,59,60,47,97,62]⟩:ByteArray).data.toList=([],80)/\zA9 (⟨#[60,97,62,38,120,59,60,47,97,62]⟩:ByteArray).data.toList=([],80):=by decide +kernel
theorem zQO:zA9 (⟨#[32,60,97,32,98,32,61,32,39,49,39,62,120,32,38,103,116,59,32,121,60,47,97,62,10]⟩:ByteArray).data.toList=((⟨#[60,97,32,98,61,34,49,34,62,120,32,38,103,116,59,32,121,60,47,97,62]⟩:ByteArray).data.toList,0):=by decide +kernel
theorem zPp:zA9 (⟨#[60,97,32,120,109,108,110,115,61,39,117,39,62,60,98,32,120,109,108,110,115,61,39,39,47,62,60,99,47,62,60,47,97,62]⟩:ByteArray).data.toList=((⟨#[60,97,32,120,109,108,110,115,61,34,117,34,62,60,98,32,120,109,108,110,115,61,34,34,47,62,60,99,47,62,60,47,97,62]⟩:ByteArray).data.toList,0):=by decide +kernel
def zLZ:Nd:=⟨1,[117],[97],[],[],0⟩
theorem zJS:zBO [zLZ] (⟨#[117]⟩:ByteArray).data.toList=((⟨#[60,97,47,62]⟩:ByteArray).data.toList,0)/\zBO [] (⟨#[]⟩:ByteArray).data.toList=((⟨#[]⟩:ByteArray).data.toList,8)/\zA9 (⟨#[60,120,109,108,58,97,47,62]⟩:ByteArray).data.toList=((⟨#[]⟩:ByteArray).data.toList,8)/\([zLZ].all (zLU 2000))=true:=by decide +kernel
theorem zQT (w:World) (hE:Ev9 w) (hT:TbH w) (hEE:EvE w) :
 Calls prog 5 #[] w λe w'=>e=.returned (.bool true)/\Below w.heap.size w w':=by
 have HO0:Hid (∀W,Below w.heap.size w W->Calls prog 25 #[.string ⟨#[60,97,62,0,60,47,97,62]⟩,.int .i64 50] W λe w'=>e=.returned (.bool true)/\Below W.heap.size W w'):=hI λW hW=>zOJ ⟨#[60,97,62,0,60,47,97,62]⟩ 50 W (by decide) zNS.1 zNS.2 (hE.to hW) (hT.to hW) (hEE.to hW)
 have HO1:Hid (∀W,Below w.heap.size w W->Calls prog 25 #[.string ⟨#[60,97,62]⟩,.int .i64 80] W λe w'=>e=.returned (.bool true)/\Below W.heap.size W w'):=hI λW hW=>zOJ ⟨#[60,97,62]⟩ 80 W (by decide) zLh.1 zLh.2 (hE.to hW) (hT.to hW) (hEE.to hW)
 have HO2:Hid (∀W,Below w.heap.size w W->Calls prog 25 #[.string ⟨#[60,112,58,97,47,62]⟩,.int .i64 110] W λe w'=>e=.returned (.bool true)/\Below W.heap.size W w'):=hI λW hW=>zOJ ⟨#[60,112,58,97,47,62]⟩ 110 W (by decide) zNF.1 zNF.2 (hE.to hW) (hT.to hW) (hEE.to hW)
 have HO3:Hid (∀W,Below w.heap.size w W->Calls prog 25 #[.string ⟨#[60,97,62,38,120,59,60,47,97,62]⟩,.int .i64 80] W λe w'=>e=.returned (.bool true)/\Below W.heap.size W w'):=hI λW hW=>zOJ ⟨#[60,97,62,38,120,59,60,47,97,62]⟩ 80 W (by decide) zNm.1 zNm.2 (hE.to hW) (hT.to hW) (hEE.to hW)
 have HI0:Hid (∀W,Below w.heap.size w W->Calls prog 26 #[.string ⟨#[32,60,97,32,98,32,61,32,39,49,39,62,120,32,38,103,116,59,32,121,60,47,97,62,10]⟩,.string ⟨#[60,97,32,98,61,34,49,34,62,120,32,38,103,116,59,32,121,60,47,97,62]⟩] W λe w'=>e=.returned (.bool true)/\Below W.heap.size W w'):=hI λW hW=>is12 ⟨#[32,60,97,32,98,32,61,32,39,49,39,62,120,32,38,103,116,59,32,121,60,47,97,62,10]⟩ ⟨#[60,97,32,98,61,34,49,34,62,120,32,38,103,116,59,32,121,60,47,97,62]⟩ W (by decide) zQO (hE.to hW) (hT.to hW) (hEE.to hW)
 have HI1:Hid (∀W,Below w.heap.size w W->Calls prog 26 #[.string ⟨#[60,97,32,120,109,108,110,115,61,39,117,39,62,60,98,32,120,109,108,110,115,61,39,39,47,62,60,99,47,62,60,47,97,62]⟩,.string ⟨#[60,97,32,120,109,108,110,115,61,34,117,34,62,60,98,32,120,109,108,110,115,61,34,34,47,62,60,99,47,62,60,47,97,62]⟩] W λe w'=>e=.returned (.bool true)/\Below W.heap.size W w'):=hI λW hW=>is12 ⟨#[60,97,32,120,109,108,110,115,61,39,117,39,62,60,98,32,120,109,108,110,115,61,39,39,47,62,60,99,47,62,60,47,97,62]⟩ ⟨#[60,97,32,120,109,108,110,115,61,34,117,34,62,60,98,32,120,109,108,110,115,61,34,34,47,62,60,99,47,62,60,47,97,62]⟩ W (by decide) zPp (hE.to hW) (hT.to hW) (hEE.to hW)
 have HW1:Hid (∀W,Below w.heap.size w W->Calls prog 27 #[.slice (some ⟨W.heap.size,0,none⟩) 1 1,.string ⟨#[117]⟩] (W.alloc (.cells #[.int .u8 1,.string ⟨#[117]⟩,.string ⟨#[97]⟩,.slice none 0 0,.string ⟨#[]⟩,.int .i64 0] 42)) λe w'=>e=.returned (.tuple #[.string ⟨#[60,97,47,62]⟩,.int .i64 0])/\Below W.heap.size W w'):=hI λW hW=>by
  have hb:Below W.heap.size W (W.alloc (.cells #[.int .u8 1,.string ⟨#[117]⟩,.string ⟨#[97]⟩,.slice none 0 0,.string ⟨#[]⟩,.int .i64 0] 42)):=stpA (Below.refl _ _) _;have hx:=heap_alloc_new W (.cells #[.int .u8 1,.string ⟨#[117]⟩,.string ⟨#[97]⟩,.slice none 0 0,.string ⟨#[]⟩,.int .i64 0] 42);have hr:RdB NdS (W.alloc (.cells #[.int .u8 1,.string ⟨#[117]⟩,.string ⟨#[97]⟩,.slice none 0 0,.string ⟨#[]⟩,.int .i64 0] 42)) (some ⟨W.heap.size,0,none⟩) [zLZ]:=zOm [nbOf zLZ none] hx rfl (λx hx=>by rw [List.mem_singleton.1 hx];exact zQq (RdS.nil _ _ _) (λ_=>rfl) (by decide)) (zAY hx);exact (zI9 _ 1 1 [zLZ] ⟨#[117]⟩ _ hr rfl (by decide) (λ_ m hm=>(zNk zJS.2.2.2 m hm).up (by decide)) (by decide) ⟨#[60,97,47,62]⟩ 0 zJS.1 (hT.to (stp hW hb)) (hEE.to (stp hW hb))).mono λe w' h=>⟨h.1,stp hb h.2⟩
 have HW2:Hid (∀W,Below w.heap.size w W->Calls prog 27 #[.slice none 0 0,.string ⟨#[]⟩] W λe w'=>e=.returned (.tuple #[.string ⟨#[]⟩,.int .i64 8])/\Below W.heap.size W w'):=hI λW hW=>zI9 none 0 0 [] ⟨#[]⟩ W (RdB.nil _ _) rfl (by decide) (λ_ m hm=>by cases hm) (by decide) ⟨#[]⟩ 8 zJS.2.1 (hT.to hW) (hEE.to hW)
 have HC1:Hid (∀W,Below w.heap.size w W->Calls prog 28 #[.string ⟨#[60,120,109,108,58,97,47,62]⟩] W λe w'=>e=.returned (.tuple #[.string ⟨#[]⟩,.int .i64 8])/\Below W.heap.size W w'):=hI λW hW=>zGF ⟨#[60,120,109,108,58,97,47,62]⟩ W (by decide) ⟨#[]⟩ 8 zJS.2.2.1 (hE.to hW) (hT.to hW) (hEE.to hW)
 have HAL:Hid (∀W,Below w.heap.size w W->Calls prog 29 #[] W λe w'=>e=.returned (.bool true)/\Below W.heap.size W w'):=hI λW hW=>zIP W (hE.to hW) (hT.to hW) (hEE.to hW)
 clear hE hT hEE
 go_enter func5,ntmps5
 go_wp2_with (first
  | (go_at_call 25;(with_reducible refine (HO0.out w (Below.refl _ _)).mono ?_);rintro e1 w1 ⟨rfl,hb1⟩;have HB1:=hI (hb1);clear hb1)
  | (go_at_call 25;(with_reducible refine (HO1.out w1 (HB1.out)).mono ?_);rintro e2 w2 ⟨rfl,hb2⟩;have HB2:=hI (stp HB1.out hb2);clear hb2)
  | (go_at_call 25;(with_reducible refine (HO2.out w2 (HB2.out)).mono ?_);rintro e3 w3 ⟨rfl,hb3⟩;have HB3:=hI (stp HB2.out hb3);clear hb3)
  | (go_at_call 25;(with_reducible refine (HO3.out w3 (HB3.out)).mono ?_);rintro e4 w4 ⟨rfl,hb4⟩;have HB4:=hI (stp HB3.out hb4);clear hb4)
  | (go_at_call 26;(with_reducible refine (HI0.out w4 (HB4.out)).mono ?_);rintro e5 w5 ⟨rfl,hb5⟩;have HB5:=hI (stp HB4.out hb5);clear hb5)
  | (go_at_call 26;(with_reducible refine (HI1.out w5 (HB5.out)).mono ?_);rintro e6 w6 ⟨rfl,hb6⟩;have HB6:=hI (stp HB5.out hb6);clear hb6)
  | (go_at_call 27;(with_reducible refine (HW1.out w6 (HB6.out)).mono ?_);rintro e7 w7 ⟨rfl,hb7⟩;have HB7:=hI (stp HB6.out hb7);clear hb7)
  | (go_at_call 27;(with_reducible refine (HW2.out w7 (HB7.out)).mono ?_);rintro e8 w8 ⟨rfl,hb8⟩;have HB8:=hI (stp HB7.out hb8);clear hb8)
  | (go_at_call 28;(with_reducible refine (HC1.out w8 (HB8.out)).mono ?_);rintro e9 w9 ⟨rfl,hb9⟩;have HB9:=hI (stp HB8.out hb9);clear hb9)
  | (go_at_call 29;(with_reducible refine (HAL.out w9 (HB9.out)).mono ?_);rintro e10 w10 ⟨rfl,hb10⟩;have HB10:=hI (stp HB9.out hb10);clear hb10)
  | fail)
 go_ret
 exact ⟨rfl,HB10.out⟩
end Hx
end Go.Proofs.YtlgppednjkbgiaaGreatDoor
