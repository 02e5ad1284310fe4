/- Texts put together. -/
import Derived.Test.YtlgppednjkbgiaaGreatDoorMiA
import Derived.Test.YtlgppednjkbgiaaGreatDoorMi27
import Derived.Test.YtlgppednjkbgiaaGreatDoorMi07
import Derived.Test.YtlgppednjkbgiaaGreatDoorMi24
import Derived.Test.YtlgppednjkbgiaaGreatDoorMi22
import Derived.Test.YtlgppednjkbgiaaGreatDoorMi15
import Derived.Deep.Cut
set_option maxRecDepth 100000
set_option maxHeartbeats 16000000
set_option linter.unusedVariables false
set_option linter.unusedSimpArgs false
namespace Go.Proofs.YtlgppednjkbgiaaGreatDoor
open Go.RowKit Go.Proofs.Tryz
namespace Hx
open Lx Tr Tx Nmb Es
theorem zOs {v:List Nd} {p:Nat}:∀n∈zA4 v p,n∈v:=by
 intro n hn;unfold zA4 at hn
 split at hn
 · cases hn
 · exact List.mem_of_mem_drop (List.mem_of_mem_take hn)
theorem zMg {v:List Nd} {p:Nat}:(zA4 v p).length<=v.length:=by
 unfold zA4
 split
 · exact Nat.zero_le _
 · rw [List.length_take,List.length_drop]
   omega
theorem zKw {v out:List Nd} {i q:Int} (h:subR v i=(out,q)):out.length<=v.length/\∀n∈out,n∈v:=by
 unfold subR at h
 split at h
 · split at h
   · split at h
     · obtain ⟨rfl,_⟩:=(Prod.mk.injEq _ _ _ _).mp h
       exact ⟨Nat.zero_le _,λt ht=>by cases ht⟩
     · obtain ⟨rfl,_⟩:=(Prod.mk.injEq _ _ _ _).mp h
       exact ⟨zMg,zOs⟩
   · obtain ⟨rfl,_⟩:=(Prod.mk.injEq _ _ _ _).mp h
     exact ⟨Nat.zero_le _,λt ht=>by cases ht⟩
 · obtain ⟨rfl,_⟩:=(Prod.mk.injEq _ _ _ _).mp h
   exact ⟨Nat.zero_le _,λt ht=>by cases ht⟩
theorem zIg {v:List Nd} {i:Int} {l:List Nat} (h:zIf v i=l):l.length<=v.length:=by
 unfold zIf at h
 split at h
 · rename_i h0
   obtain ⟨hm,h1,h2⟩:=zDr h0;have hp:i.toNat<v.length:=by omega
   obtain ⟨r,hr⟩:=zE9 hm hp;obtain ⟨_,hu⟩:=zPH hp hr;rw [←h]
   omega
 · rw [←h]
   exact Nat.zero_le _
end Hx
end Go.Proofs.YtlgppednjkbgiaaGreatDoor
