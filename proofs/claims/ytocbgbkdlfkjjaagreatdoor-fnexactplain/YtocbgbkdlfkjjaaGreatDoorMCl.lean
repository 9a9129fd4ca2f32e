/- CONTRACT of errors.As at the program's own error, a struct by value. -/
import Derived.Test.YtocbgbkdlfkjjaaGreatDoorMCa
import Derived.WalkKit
import Derived.LaidEql
import Derived.Stop.Asserts
import Derived.RowKitTokens
import Derived.Test.YtocbgbkdlfkjjaaGreatDoorMCj
set_option maxRecDepth 100000
set_option maxHeartbeats 6400000
namespace Go.Proofs.YtocbgbkdlfkjjaaGreatDoor
open Go.RowKit Go.Extern.Stop Go.Stop Go.Extern
theorem as_nil (t:Value) (w:World):Calls Tryz.prog 44 #[.nilIface,t] w fun e w'=>e=.returned (.bool false)∧w'=w:=by
 go_enter Tryz.func44,Tryz.ntmps44
 go_wp2
 go_ret
 exact ⟨rfl,rfl⟩
theorem Tryz.valueOf65 (t:Addr) (w:World):(ReflectliteValue.unpack (.iface 65 (.pointer (some t)))).run Tryz.prog w=.ok (.agg #[.pointer (some ⟨5,65,none⟩),.pointer (some ⟨w.heap.size,0,none⟩),.int .u64 150]) (w.alloc (.cells #[.pointer (some t)] 65)):=by kernel_rfl
theorem Tryz.type65 (a:Addr) (w:World):(ReflectliteValue.methodAny (ReflectliteValue.valueError "reflectlite.Value.Type" 0) (fun t _ _ _=>ReflectliteType.toType t) #[.agg #[.pointer (some ⟨5,65,none⟩),.pointer (some a),.int .u64 150]]).run Tryz.prog w=.ok (.iface 136 (.agg #[.pointer (some ⟨5,65,none⟩)])) w:=by kernel_rfl
theorem Tryz.methodKind (h:Value) (w:World):(Go.method 358 136 (.agg #[h]) "Kind").run Tryz.prog w=.ok (206,h) w:=by kernel_rfl
theorem Tryz.kind65 (w:World):((ReflectliteType.abiMethod fun t=>(fun a:Nat=>Value.int IntKind.u8 (a:Int)) <$> Rtype.kind t) #[.pointer (some ⟨5,65,none⟩)]).run Tryz.prog w=.ok (.int .u8 22) w:=by kernel_rfl
theorem Tryz.kind63 (w:World):((ReflectliteType.abiMethod fun t=>(fun a:Nat=>Value.int IntKind.u8 (a:Int)) <$> Rtype.kind t) #[.pointer (some ⟨5,63,none⟩)]).run Tryz.prog w=.ok (.int .u8 25) w:=by kernel_rfl
theorem rlm (z:Sem Value) (f:TypeId→Addr→Nat→Nat→Sem Value) (v:Value) :
 ReflectliteValue.method z f #[v]=(do match ← ReflectliteValue.parts v with | none=>z | some (t,a,fl)=>f t a fl (fl % 32)):=rfl
theorem Tryz.parts65 (a:Addr) (w:World):(ReflectliteValue.parts (.agg #[.pointer (some ⟨5,65,none⟩),.pointer (some a),.int .u64 150])).run Tryz.prog w=.ok (some (65,a,150)) w:=by kernel_rfl
theorem Tryz.isNil65 (a p:Addr) (W:World) (ha:W.cell? a=some (.pointer (some p))) :
 (ReflectliteValue.method (ReflectliteValue.valueError "reflectlite.Value.IsNil" 0) ReflectliteValue.isNil #[.agg #[.pointer (some ⟨5,65,none⟩),.pointer (some a),.int .u64 150]]).run Tryz.prog W=.ok (.bool false) W:=by
 rw [rlm]
 simp only [Sem.run_bind,Tryz.parts65,Result.andThen]
 simp [ReflectliteValue.isNil,loadVar,isAgg,underlying,Tryz.underlying65,ha,Result.andThen]
theorem Tryz.methodElem (h:Value) (w:World):(Go.method 358 136 (.agg #[h]) "Elem").run Tryz.prog w=.ok (217,.agg #[h]) w:=by kernel_rfl
theorem Tryz.methodImplements (h:Value) (w:World):(Go.method 358 136 (.agg #[h]) "Implements").run Tryz.prog w=.ok (218,.agg #[h]) w:=by kernel_rfl
theorem Tryz.methodAssignableTo (h:Value) (w:World):(Go.method 358 136 (.agg #[h]) "AssignableTo").run Tryz.prog w=.ok (215,.agg #[h]) w:=by kernel_rfl
theorem Tryz.elem65 (w:World):(ReflectliteType.method ReflectliteType.elem #[.agg #[.pointer (some ⟨5,65,none⟩)]]).run Tryz.prog w=.ok (.iface 136 (.agg #[.pointer (some ⟨5,63,none⟩)])) w:=by kernel_rfl
theorem Tryz.implements63 (w:World):(ReflectliteType.relation "Implements" ReflectliteType.implements_ #[.agg #[.pointer (some ⟨5,63,none⟩)],.iface 136 (.agg #[.pointer (some ⟨5,59,none⟩)])]).run Tryz.prog w=.ok (.bool true) w:=by kernel_rfl
theorem Tryz.typeOf63 (v:Value) (w:World):(ReflectliteType.typeOf #[.iface 63 v]).run Tryz.prog w=.ok (.iface 136 (.agg #[.pointer (some ⟨5,63,none⟩)])) w:=by kernel_rfl
theorem Tryz.assignable63 (w:World):(ReflectliteType.relation "AssignableTo" ReflectliteType.assignableTo #[.agg #[.pointer (some ⟨5,63,none⟩)],.iface 136 (.agg #[.pointer (some ⟨5,63,none⟩)])]).run Tryz.prog w=.ok (.bool true) w:=by kernel_rfl
theorem Tryz.valueOf63 (c:Int) (n:ByteArray) (w:World):(ReflectliteValue.unpack (.iface 63 (.agg #[.int .i64 c,.string n]))).run Tryz.prog w=.ok (.agg #[.pointer (some ⟨5,63,none⟩),.pointer (some ⟨w.heap.size,0,none⟩),.int .u64 153]) (w.alloc (.cells #[.int .i64 c,.string n] 63)):=by kernel_rfl
theorem Tryz.elemOf65 (w:World):(Rtype.elem? 65).run Tryz.prog w=.ok (some 63) w:=by kernel_rfl
theorem Tryz.mk63 (p:Addr) (w:World):(ReflectliteValue.mk 63 p ReflectliteValue.flagAddr).run Tryz.prog w=.ok (.agg #[.pointer (some ⟨5,63,none⟩),.pointer (some p),.int .u64 409]) w:=by kernel_rfl
theorem Tryz.elemV65 (a p:Addr) (W:World) (ha:W.cell? a=some (.pointer (some p))) :
 (ReflectliteValue.method (ReflectliteValue.valueError "reflectlite.Value.Elem" 0) ReflectliteValue.elem #[.agg #[.pointer (some ⟨5,65,none⟩),.pointer (some a),.int .u64 150]]).run Tryz.prog W=.ok (.agg #[.pointer (some ⟨5,63,none⟩),.pointer (some p),.int .u64 409]) W:=by
 rw [rlm]
 simp only [Sem.run_bind,Tryz.parts65,Result.andThen]
 simp [ReflectliteValue.elem,loadVar,isAgg,underlying,Tryz.underlying65,ha,Result.andThen,Tryz.elemOf65,Tryz.mk63]
theorem rls (v x:Value):ReflectliteValue.set #[v,x]=(do
 let (some (dst,a,fl),some (src,b,_)):=(← ReflectliteValue.parts v,← ReflectliteValue.parts x)
  | unsupported (.noEntry "extern/(internal/reflectlite.Value).Set.zeroValue")
 if fl / ReflectliteValue.flagAddr % 2 == 0 then unsupported (.noEntry "extern/(internal/reflectlite.Value).Set.unaddressable")
 let val ← loadVar src b
 if ← Rtype.directlyAssignable dst src then storeVar dst a val
 else if ← Rtype.implements dst src then
  if (← Rtype.kind src) == 20 then
   match val with
   | .nilIface=>unsupported (.noEntry "extern/reflectlite: a nil value of one interface type handed on as a value of another")
   | _=>storeVar dst a val
  else storeVar dst a (.iface src val)
 else panicString ("reflectlite.Set: value of type " ++ (← Rtype.spelt src) ++ " is not assignable to type " ++ (← Rtype.spelt dst))
 pure (.tuple #[])):=rfl
theorem Tryz.parts63a (a:Addr) (w:World):(ReflectliteValue.parts (.agg #[.pointer (some ⟨5,63,none⟩),.pointer (some a),.int .u64 409])).run Tryz.prog w=.ok (some (63,a,409)) w:=by kernel_rfl
theorem Tryz.parts63 (a:Addr) (w:World):(ReflectliteValue.parts (.agg #[.pointer (some ⟨5,63,none⟩),.pointer (some a),.int .u64 153])).run Tryz.prog w=.ok (some (63,a,153)) w:=by kernel_rfl
theorem Tryz.direct63 (w:World):(Rtype.directlyAssignable 63 63).run Tryz.prog w=.ok true w:=by kernel_rfl
theorem Tryz.load63 (b:Nat) (c:Int) (n:ByteArray) (W:World) (hb0:W.cell? ⟨b,0,none⟩=some (.int .i64 c)) (hb1:W.cell? ⟨b,1,none⟩=some (.string n)):(loadVar 63 ⟨b,0,none⟩).run Tryz.prog W=.ok (.agg #[.int .i64 c,.string n]) W:=by
 simp [loadVar,go_sem,Tryz.isAgg63,Tryz.sizeOf63,hb0,hb1]
theorem Tryz.store63 (B:Nat) (c:Int) (n:ByteArray) (o0 o1:Value) (W:World) (ht0:W.cell? ⟨B,0,none⟩=some o0) (ht1:W.cell? ⟨B,1,none⟩=some o1) (hf0:W.frozen? ⟨B,0,none⟩=false) (hf1:W.frozen? ⟨B,1,none⟩=false) :
 (storeVar 63 ⟨B,0,none⟩ (.agg #[.int .i64 c,.string n])).run Tryz.prog W=.ok () ((W.setCell ⟨B,0,none⟩ (.int .i64 c)).setCell ⟨B,1,none⟩ (.string n)):=by
 simp [storeVar,go_sem,Tryz.sizeOf63,ht0,ht1,hf0,hf1]
theorem Tryz.set63 (B b:Nat) (c:Int) (n:ByteArray) (o0 o1:Value) (W:World) (hb0:W.cell? ⟨b,0,none⟩=some (.int .i64 c)) (hb1:W.cell? ⟨b,1,none⟩=some (.string n)) (ht0:W.cell? ⟨B,0,none⟩=some o0) (ht1:W.cell? ⟨B,1,none⟩=some o1) (hf0:W.frozen? ⟨B,0,none⟩=false) (hf1:W.frozen? ⟨B,1,none⟩=false) :
 (ReflectliteValue.set #[.agg #[.pointer (some ⟨5,63,none⟩),.pointer (some ⟨B,0,none⟩),.int .u64 409],.agg #[.pointer (some ⟨5,63,none⟩),.pointer (some ⟨b,0,none⟩),.int .u64 153]]).run Tryz.prog W=.ok (.tuple #[]) ((W.setCell ⟨B,0,none⟩ (.int .i64 c)).setCell ⟨B,1,none⟩ (.string n)):=by
 rw [rls]
 simp only [Sem.run_bind,Tryz.parts63a,Tryz.parts63,Result.andThen]
 simp [ReflectliteValue.flagAddr,Tryz.load63 b c n W hb0 hb1,Result.andThen,Tryz.direct63,Tryz.store63 B c n o0 o1 W ht0 ht1 hf0 hf1]
theorem as_in (c:Int) (n:ByteArray) (B V:Nat) (o0 o1:Value) (w:World) (hV:w.cell? ⟨V,0,none⟩=some (.pointer (some ⟨B,0,none⟩))) (ht0:w.cell? ⟨B,0,none⟩=some o0) (ht1:w.cell? ⟨B,1,none⟩=some o1) (hf0:w.frozen? ⟨B,0,none⟩=false) (hf1:w.frozen? ⟨B,1,none⟩=false) :
 Calls Tryz.prog 77 #[.iface 63 (.agg #[.int .i64 c,.string n]),.iface 65 (.pointer (some ⟨B,0,none⟩)),.agg #[.pointer (some ⟨5,65,none⟩),.pointer (some ⟨V,0,none⟩),.int .u64 150],.iface 136 (.agg #[.pointer (some ⟨5,63,none⟩)])] w fun ev w'=>ev=.returned (.bool true) ∧
  w'=(((w.setCell ⟨B,0,none⟩ (.int .i64 c)).setCell ⟨B,1,none⟩ (.string n)).alloc (.cells #[.pointer (some ⟨5,65,none⟩),.pointer (some ⟨V,0,none⟩),.int .u64 150] 100)).alloc (.cells #[.int .i64 c,.string n] 63):=by
 have h74:=@run_callFunc_extern Tryz.prog 74 _ (fun args=>ReflectliteValue.unpack (args.getD 0 (.tuple #[]))) Tryz.func74 (by kernel_rfl) (by kernel_rfl) (by kernel_rfl) (by kernel_rfl)
 have h103:=@run_callFunc_extern Tryz.prog 103 _ ReflectliteType.typeOf Tryz.func103 (by kernel_rfl) (by kernel_rfl) (by kernel_rfl) (by kernel_rfl)
 have h215:=@run_callFunc_extern Tryz.prog 215 _ (ReflectliteType.relation "AssignableTo" ReflectliteType.assignableTo) Tryz.func215 (by kernel_rfl) (by kernel_rfl) (by kernel_rfl) (by kernel_rfl)
 have h104:=@run_callFunc_extern Tryz.prog 104 _ (ReflectliteValue.method (ReflectliteValue.valueError "reflectlite.Value.Elem" 0) ReflectliteValue.elem) Tryz.func104 (by kernel_rfl) (by kernel_rfl) (by kernel_rfl) (by kernel_rfl)
 have h105:=@run_callFunc_extern Tryz.prog 105 _ ReflectliteValue.set Tryz.func105 (by kernel_rfl) (by kernel_rfl) (by kernel_rfl) (by kernel_rfl)
 have tO:=Tryz.typeOf63
 have mA:=Tryz.methodAssignableTo
 have a63:=Tryz.assignable63
 have v63:=Tryz.valueOf63
 have lV:V<w.heap.size:=World.block_lt_of_cell? w _ hV
 have lB:B<w.heap.size:=World.block_lt_of_cell? w _ ht0
 have el:=Tryz.elemV65 ⟨V,0,none⟩ ⟨B,0,none⟩ (w.alloc (.cells #[.pointer (some ⟨5,65,none⟩),.pointer (some ⟨V,0,none⟩),.int .u64 150] 100)) (by rw [World.cell?_alloc_lt _ _ _ lV];exact hV)
 have st:=Tryz.set63 B (w.heap.size+1) c n o0 o1 ((w.alloc (.cells #[.pointer (some ⟨5,65,none⟩),.pointer (some ⟨V,0,none⟩),.int .u64 150] 100)).alloc (.cells #[.int .i64 c,.string n] 63))
  (by rw [World.cell?_alloc_at _ _ _ _ (by simp)];rfl) (by rw [World.cell?_alloc_at _ _ _ _ (by simp)];rfl)
  (by rw [World.cell?_alloc_lt _ _ _ (by simp;omega),World.cell?_alloc_lt _ _ _ lB];exact ht0) (by rw [World.cell?_alloc_lt _ _ _ (by simp;omega),World.cell?_alloc_lt _ _ _ lB];exact ht1)
  (by rw [World.frozen?_alloc_old _ _ _ (by simp;omega),World.frozen?_alloc_old _ _ _ (Nat.ne_of_lt lB)];exact hf0) (by rw [World.frozen?_alloc_old _ _ _ (by simp;omega),World.frozen?_alloc_old _ _ _ (Nat.ne_of_lt lB)];exact hf1)
 go_enter Tryz.func77,Tryz.ntmps77
 go_wp2
 refine wp_loop_rounds 1 ?_
 rw [rounds_succ]
 go_wp2
 go_ret
 exact ⟨rfl,rfl⟩
theorem as_world {w:World} {B:Nat} {o0 o1:Value} (h:w.heap[B]?=some (.cells #[o0,o1] 63 (0,0))) (c:Int) (n:ByteArray) (a b:Obj):w.grownBy ((((w.setCell ⟨B,0,none⟩ (.int .i64 c)).setCell ⟨B,1,none⟩ (.string n)).alloc a).alloc b) (some B)∧((((w.setCell ⟨B,0,none⟩ (.int .i64 c)).setCell ⟨B,1,none⟩ (.string n)).alloc a).alloc b).heap[B]?=some (.cells #[.int .i64 c,.string n] 63 (0,0)):=by
 have hl:B<w.heap.size:=(Array.getElem?_eq_some_iff.1 h).1
 have z1:((w.setCell ⟨B,0,none⟩ (.int .i64 c)).setCell ⟨B,1,none⟩ (.string n)).heap.size=w.heap.size:=by simp [World.setCell]
 refine ⟨⟨rfl,rfl,rfl,by simp [World.setCell];omega,fun q hq hne=>?_⟩,?_⟩
 ·rw [Lib.alloc_old _ _ _ (by simp [World.setCell];omega),Lib.alloc_old _ _ _ (by rw [z1];exact hq),Below.heap_setCell _ _ _ _ (fun e=>hne (by rw [e])),Below.heap_setCell _ _ _ _ (fun e=>hne (by rw [e]))]
 ·rw [Lib.alloc_old _ _ _ (by simp [World.setCell];omega),Lib.alloc_old _ _ _ (by rw [z1];exact hl),heap_setCell_same _ B 1 _ 63 _ (heap_setCell_same _ B 0 _ 63 _ h)]
  rfl
theorem as_hit (c:Int) (n:ByteArray) (B:Nat) (o0 o1:Value) (w:World) (hg:w.cell? ⟨0,0,none⟩=some (.iface 136 (.agg #[.pointer (some ⟨5,59,none⟩)]))) (hB:w.heap[B]?=some (.cells #[o0,o1] 63 (0,0))) :
 Calls Tryz.prog 44 #[.iface 63 (.agg #[.int .i64 c,.string n]),.iface 65 (.pointer (some ⟨B,0,none⟩))] w fun ev w'=>ev=.returned (.bool true)∧w.grownBy w' (some B)∧w'.heap[B]?=some (.cells #[.int .i64 c,.string n] 63 (0,0)):=by
 have h74:=@run_callFunc_extern Tryz.prog 74 _ (fun args=>ReflectliteValue.unpack (args.getD 0 (.tuple #[]))) Tryz.func74 (by kernel_rfl) (by kernel_rfl) (by kernel_rfl) (by kernel_rfl)
 have h75:=@run_callFunc_extern Tryz.prog 75 _ (ReflectliteValue.methodAny (ReflectliteValue.valueError "reflectlite.Value.Type" 0) (fun t _ _ _=>ReflectliteType.toType t)) Tryz.func75 (by kernel_rfl) (by kernel_rfl) (by kernel_rfl) (by kernel_rfl)
 have h76:=@run_callFunc_extern Tryz.prog 76 _ (ReflectliteValue.method (ReflectliteValue.valueError "reflectlite.Value.IsNil" 0) ReflectliteValue.isNil) Tryz.func76 (by kernel_rfl) (by kernel_rfl) (by kernel_rfl) (by kernel_rfl)
 have h206:=@run_callFunc_extern Tryz.prog 206 _ (ReflectliteType.abiMethod fun t=>do pure (.int .u8 (← Rtype.kind t))) Tryz.func206 (by kernel_rfl) (by kernel_rfl) (by kernel_rfl) (by kernel_rfl)
 have h217:=@run_callFunc_extern Tryz.prog 217 _ (ReflectliteType.method ReflectliteType.elem) Tryz.func217 (by kernel_rfl) (by kernel_rfl) (by kernel_rfl) (by kernel_rfl)
 have h218:=@run_callFunc_extern Tryz.prog 218 _ (ReflectliteType.relation "Implements" ReflectliteType.implements_) Tryz.func218 (by kernel_rfl) (by kernel_rfl) (by kernel_rfl) (by kernel_rfl)
 have f6:=Tryz.valueOf65
 have f7:=Tryz.type65
 have mK:=Tryz.methodKind
 have mE:=Tryz.methodElem
 have mI:=Tryz.methodImplements
 have k65:=Tryz.kind65
 have k63:=Tryz.kind63
 have e65:=Tryz.elem65
 have i63:=Tryz.implements63
 have hl:B<w.heap.size:=(Array.getElem?_eq_some_iff.1 hB).1
 have hlt:0<w.heap.size:=by omega
 have n8:=Tryz.isNil65 ⟨w.heap.size,0,none⟩ ⟨B,0,none⟩ ((w.alloc (.cells #[.pointer (some ⟨B,0,none⟩)] 65)).alloc (.cells #[.pointer (some ⟨5,65,none⟩),.pointer (some ⟨w.heap.size,0,none⟩),.int .u64 150] 100)) (by simp)
 have hg2:((w.alloc (.cells #[.pointer (some ⟨B,0,none⟩)] 65)).alloc (.cells #[.pointer (some ⟨5,65,none⟩),.pointer (some ⟨w.heap.size,0,none⟩),.int .u64 150] 100)).cell? ⟨0,0,none⟩=some (.iface 136 (.agg #[.pointer (some ⟨5,59,none⟩)])):=by
  rw [World.cell?_alloc_lt _ _ ⟨0,0,none⟩ (by simp),World.cell?_alloc_lt _ _ ⟨0,0,none⟩ hlt];exact hg
 have hB2:((w.alloc (.cells #[.pointer (some ⟨B,0,none⟩)] 65)).alloc (.cells #[.pointer (some ⟨5,65,none⟩),.pointer (some ⟨w.heap.size,0,none⟩),.int .u64 150] 100)).heap[B]?=some (.cells #[o0,o1] 63 (0,0)):=by
  rw [Lib.alloc_old _ _ _ (by simp;omega),Lib.alloc_old _ _ _ hl];exact hB
 have HW:=xaQ (fun a b=>as_world hB2 c n a b)
 have HC:=xaQ (as_in c n B w.heap.size o0 o1 ((w.alloc (.cells #[.pointer (some ⟨B,0,none⟩)] 65)).alloc (.cells #[.pointer (some ⟨5,65,none⟩),.pointer (some ⟨w.heap.size,0,none⟩),.int .u64 150] 100)) (by simp) (by rw [Lib.cell_of_heap hB2];rfl) (by rw [Lib.cell_of_heap hB2];rfl) (Lib.frozen_of_heap hB2 0) (Lib.frozen_of_heap hB2 1))
 clear hB2
 go_enter Tryz.func44,Tryz.ntmps44
 go_wp2_with (go_at_call 77;refine HC.out.mono ?_;rintro e w' ⟨rfl,hw'⟩;have HG:=xaQ (show ((w.alloc (.cells #[.pointer (some ⟨B,0,none⟩)] 65)).alloc (.cells #[.pointer (some ⟨5,65,none⟩),.pointer (some ⟨w.heap.size,0,none⟩),.int .u64 150] 100)).grownBy w' (some B)∧w'.heap[B]?=some (.cells #[.int .i64 c,.string n] 63 (0,0)) from by rw [hw'];exact HW.out _ _);clear hw')
 go_ret
 exact ⟨rfl,((World.grownBy_alloc w _ _).trans (World.grownBy_alloc _ _ _)).trans HG.out.1,HG.out.2⟩
end Go.Proofs.YtocbgbkdlfkjjaaGreatDoor
namespace Go.Proofs.YtocbgbkdlfkjjaaGreatDoor
open Go.RowKit
open Pl
theorem wrg_size {p:Int→ByteArray→Bool} (t:T):xeQ t=true→∀ s,wrg p t=some s→s.size≤8:=by
 refine T.induct (P:=fun t=>xeQ t=true→∀ s,wrg p t=some s→s.size≤8) ?_ t
 intro k s m kk ih hf x hx
 simp only [wrg] at hx
 split at hx
 ·cases hx;exact yLQ (xnQ hf).1
 ·have hkid:∀ t∈kk,xeQ t=true:=fun t ht=>zaQ hf ht
  clear hf
  induction kk with
  | nil=>simp [wrgL] at hx
  | cons y r ih2 =>
   simp only [wrgL] at hx
   cases hy:wrg p y with
   | some z =>
    rw [hy] at hx
    simp at hx
    subst hx
    exact ih y (by simp) (hkid y (by simp)) _ hy
   | none =>
    rw [hy] at hx
    exact ih2 (fun t ht=>ih t (by simp [ht])) (by simpa using hx) (fun t ht=>hkid t (by simp [ht]))
theorem twice_mem {D r:List T} {s:ByteArray}:zdQ D r=some s→∃ t∈r,yHQ t=s:=by
 induction r generalizing D with
 | nil=>intro h;simp [zdQ] at h
 | cons x r ih =>
  intro h
  simp only [zdQ] at h
  split at h
  ·obtain ⟨t,h1,h2⟩:=ih h;exact ⟨t,by simp [h1],h2⟩
  ·simp at h;exact ⟨x,by simp,h⟩
theorem trb_name (t:T):(trb t).2.size≤8∧((trb t).1=0→(trb t).2=⟨#[]⟩):=by
 unfold trb
 split
 ·rename_i hok
  obtain ⟨h40,_,hf⟩:=zNQ hok
  obtain ⟨k,s,m,kk⟩:=t
  obtain rfl:k=40:=h40
  obtain ⟨_,_,D,B,rfl,hD,hBk,hBf,hDf⟩:=zEQ hf
  have e1:(xXQ (.node 40 s m (D++[B]))).dropLast=D:=by simp [xXQ]
  have e2:lastT (xXQ (.node 40 s m (D++[B])))=B:=by simp [xXQ,lastT]
  rw [e1,e2]
  unfold trbB
  split
  ·exact ⟨by decide,fun h=>rfl⟩
  ·split
   ·rename_i s' h
    obtain ⟨t,ht,rfl⟩:=twice_mem h
    have:=hDf t ht
    obtain ⟨k',s',m',kk'⟩:=t
    exact ⟨yLQ (xnQ this).1,fun h=>by simp at h⟩
   ·split
    ·rename_i s' h
     exact ⟨wrg_size B hBf _ h,fun h=>by simp at h⟩
    ·split
     ·rename_i s' h
      exact ⟨wrg_size B hBf _ h,fun h=>by simp at h⟩
     ·split
      ·exact ⟨by decide,fun _=>rfl⟩
      ·exact ⟨by decide,fun _=>rfl⟩
 ·exact ⟨by decide,fun _=>rfl⟩
theorem zoQ {w:World} {b e:Nat} {v0 v1:Value} (h:w.heap[b]?=some (.cells #[v0,v1] e (0,0))):w.cell? ⟨b,0,none⟩=some v0∧w.cell? ⟨b,1,none⟩=some v1∧w.frozen? ⟨b,0,none⟩=false∧w.frozen? ⟨b,1,none⟩=false :=
 ⟨by rw [Lib.cell_of_heap h];rfl,by rw [Lib.cell_of_heap h];rfl,Lib.frozen_of_heap h 0,Lib.frozen_of_heap h 1⟩
theorem zWQ {B:Nat} {a b:World} (h:Below B a b) {p:Nat} (hp:B≤p) (v0 v1:Value):Below B a ((b.setCell ⟨p,0,none⟩ v0).setCell ⟨p,1,none⟩ v1) :=
 (h.setCell (p:=⟨p,0,none⟩) hp _).setCell (p:=⟨p,1,none⟩) hp _
theorem putc2 {w:World} {p e:Nat} {u0 u1:Value} (h:w.heap[p]?=some (.cells #[u0,u1] e (0,0))) (v0 v1:Value):((w.setCell ⟨p,0,none⟩ v0).setCell ⟨p,1,none⟩ v1).cell? ⟨p,0,none⟩=some v0∧((w.setCell ⟨p,0,none⟩ v0).setCell ⟨p,1,none⟩ v1).cell? ⟨p,1,none⟩=some v1:=by
 have h2:((w.setCell ⟨p,0,none⟩ v0).setCell ⟨p,1,none⟩ v1).heap[p]?=some (.cells #[v0,v1] e (0,0)):=by
  rw [heap_setCell_same _ p 1 _ e _ (heap_setCell_same _ p 0 _ e _ h)];rfl
 obtain ⟨a,b,_⟩:=zoQ h2
 exact ⟨a,b⟩
theorem iCheck_any (k:Int) (s:ByteArray) (m:Int) (kk:List T) (a:Option Addr) (c:Nat) (w:World) (hs:s.size≤maxLen) (hn:kk.length≤maxLen) (hcap:kk.length≤c) (hc9:c≤maxLen) (hk:Kids w 0 a kk) (htab:Lib.TabIs Tryz.prog w "internal/strconv.uint64pow10" .u64 Lib.pow10Tab)
 (hg:w.cell? ⟨0,0,none⟩=some (.iface 136 (.agg #[.pointer (some ⟨5,59,none⟩)]))) :
 Calls Tryz.prog 13 #[.agg #[.int .i64 k,.string s,.int .i64 m,.slice a kk.length c]] w fun e w'=>e=.returned (.agg #[.int .i64 (trb (.node k s m kk)).1,.string (trb (.node k s m kk)).2])∧Below w.heap.size w w':=by
 obtain ⟨gg,hgn⟩:=Option.isSome_iff_exists.1 (show (Tryz.prog.globalNamed "internal/strconv.uint64pow10").isSome=true by kernel_rfl)
 have HPO:=xaQ (fun W (hW:Below w.heap.size w W)=>plainOf_any k s m kk a c W hs hn hcap hc9 (hk.below hW) (Joins.tab_stays hgn htab hW (Nat.le_refl _)))
 have B1:Below w.heap.size w ((w.alloc (.cells #[.int .i64 k,.string s,.int .i64 m,.slice a kk.length c] 31)).alloc (.cells #[.int .i64 0,.string ⟨#[]⟩] 27)):=((Below.refl w.heap.size w).alloc (Nat.le_refl _) _).alloc (by simp) _
 have F0:=Four.new w k s m a kk.length c 31
 have F1:=F0.below ((Below.refl _ _).alloc (Nat.le_refl _) (.cells #[.int .i64 0,.string ⟨#[]⟩] 27))
 have h0:=heap_alloc_new (w.alloc (.cells #[.int .i64 k,.string s,.int .i64 m,.slice a kk.length c] 31)) (.cells #[.int .i64 0,.string ⟨#[]⟩] 27)
 have hsz:(w.alloc (.cells #[.int .i64 k,.string s,.int .i64 m,.slice a kk.length c] 31)).heap.size=w.heap.size+1:=by simp
 rw [hsz] at h0
 obtain ⟨P,hP⟩:∃ q,w.heap.size=q:=⟨_,rfl⟩
 obtain ⟨w1,hw1⟩:∃ q,(w.alloc (.cells #[.int .i64 k,.string s,.int .i64 m,.slice a kk.length c] 31)).alloc (.cells #[.int .i64 0,.string ⟨#[]⟩] 27)=q:=⟨_,rfl⟩
 rw [hw1] at h0 F1 B1
 rw [hP] at h0 F1
 have HB:=xaQ B1
 obtain ⟨p0,p1,p2,p3⟩:=F1
 have HR:Hid (∀ W,Below w1.heap.size w1 W→W.heap[P+1]?=some (.cells #[.int .i64 0,.string ⟨#[]⟩] 27 (0,0))):=xaQ (fun W hW=>(hW.block (P+1) (xiQ h0)).trans h0)
 have HG:=xaQ (fun W (hW:Below w.heap.size w W)=>(hW.cell (p:=⟨0,0,none⟩) (World.block_lt_of_cell? w _ hg)).trans hg)
 obtain ⟨tc,htc⟩:∃ q,trb (.node k s m kk)=q:=⟨_,rfl⟩
 have hnm:=trb_name (.node k s m kk)
 rw [htc] at hnm
 rw [htc]
 have HTC:=xaQ htc
 clear htab hk h0 B1 hg htc
 obtain ⟨cd,nm⟩:=tc
 simp only at hnm
 obtain ⟨hts,hnz⟩:=hnm
 have HNZ:=xaQ hnz
 clear hnz
 go_enter Tryz.func13,Tryz.ntmps13
 go_upto_region 3 with (go_at_call 43;refine (HPO.out _ HB.out).mono ?_;rintro e w2 ⟨x,rfl,_,_,hxm,hb2⟩;rw [HTC.out];obtain ⟨zk,zs,zm,za,zc,zkk⟩:=x;simp only [A.val])
 have A4:Below w2.heap.size w2 ((w2.alloc (.cells #[.int .i64 zk,.string zs,.int .i64 zm,.slice za zkk.length zc] 31)).alloc (.cells #[.int .i64 0,.string ⟨#[]⟩] 63)):=((Below.refl _ _).alloc (Nat.le_refl _) _).alloc (by simp) _
 have hB4:=heap_alloc_new (w2.alloc (.cells #[.int .i64 zk,.string zs,.int .i64 zm,.slice za zkk.length zc] 31)) (.cells #[.int .i64 0,.string ⟨#[]⟩] 63)
 rw [show (w2.alloc (.cells #[.int .i64 zk,.string zs,.int .i64 zm,.slice za zkk.length zc] 31)).heap.size=w2.heap.size+1 by simp] at hB4
 obtain ⟨B,hB⟩:∃ q,w2.heap.size=q:=⟨_,rfl⟩
 obtain ⟨w4,hw4⟩:∃ q,(w2.alloc (.cells #[.int .i64 zk,.string zs,.int .i64 zm,.slice za zkk.length zc] 31)).alloc (.cells #[.int .i64 0,.string ⟨#[]⟩] 63)=q:=⟨_,rfl⟩
 rw [hw4] at A4 hB4
 rw [hB] at hB4
 rw [hw4,hB]
 have hz2:=hb2.size
 rw [hB] at hz2
 have bel4:=xbQ hb2 A4
 have HB4:=xaQ bel4
 have HX4:=xaQ hB4
 clear hw4 A4 hB hb2 hxm
 by_cases hc0:cd=0
 ·subst hc0
  obtain rfl:=HNZ.out rfl
  rw [show errOf ((0:Int),(⟨#[]⟩:ByteArray))=.nilIface from rfl]
  obtain ⟨z0,z1,z2,z3⟩:=zoQ (HR.out _ bel4)
  clear hB4 bel4
  go_wp2_with (go_at_call 44;refine (as_nil _ _).mono ?_;rintro e w5 ⟨rfl,rfl⟩)
  obtain ⟨q0,q1⟩:=putc2 (HR.out _ HB4.out) (.int .i64 0) (.string ⟨#[]⟩)
  exact bodyPost_ret (v:=.agg #[.int .i64 0,.string ⟨#[]⟩]) (by simp [results,Tryz.results13,go_sem,q0,q1]) rfl ⟨rfl,zWQ (xbQ HB.out HB4.out) (by omega) _ _⟩
 ·rw [show errOf (cd,nm)=.iface 63 (.agg #[.int .i64 cd,.string nm]) by unfold errOf;rw [if_neg hc0];rfl]
  have HA:=xaQ (as_hit cd nm (B+1) _ _ w4 (HG.out _ (xbQ HB.out bel4)) hB4)
  have HC:=xaQ (fun W=>clone_any nm W (by omega))
  clear hB4 bel4
  go_upto_region 4 with (go_at_call 44;refine HA.out.mono ?_;rintro e w5 ⟨rfl,hg5,hB5⟩)
  have bel5:=HB4.out.grown hg5 HB4.out.size (fun q e=>by cases e;omega)
  have HB5:=xaQ bel5
  have hlt:=xiQ (HR.out _ bel5)
  obtain ⟨y0,y1,_⟩:=zoQ hB5
  have HY:=xaQ hB5
  have hlB:=xiQ hB5
  clear hg5 bel5 hB5
  go_region_law (first | (go_simp;go_at_call 45;refine (HC.out _).mono ?_;rintro e w6 ⟨rfl,hb6⟩;have HB6:=xaQ (xbQ HB5.out.drew hb6);obtain ⟨z0,z1,z2,z3⟩:=zoQ (HR.out _ HB6.out);obtain ⟨x0,x1,_⟩:=zoQ ((hb6.block (B+1) hlB).trans HY.out);clear hb6))
  all_goals
   go_wp2
   obtain ⟨q0,q1⟩:=putc2 (HR.out _ HB6.out) (.int .i64 cd) (.string nm)
   exact bodyPost_ret (v:=.agg #[.int .i64 cd,.string nm]) (by simp [results,Tryz.results13,go_sem,q0,q1]) rfl ⟨rfl,zWQ (xbQ HB.out HB6.out) (by omega) _ _⟩
end Go.Proofs.YtocbgbkdlfkjjaaGreatDoor
