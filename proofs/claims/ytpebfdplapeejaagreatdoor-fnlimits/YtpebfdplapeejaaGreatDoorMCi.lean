/-
  CONTRACT of errors.As at the program's own error, a struct by value.
-/
import Derived.Test.YtpebfdplapeejaaGreatDoorMCc
import Derived.WalkKit
import Derived.LaidEql
import Derived.Stop.Asserts
import Derived.RowKitTokens
namespace Go.Proofs.YtpebfdplapeejaaGreatDoor
open Go.RowKit Go.Extern.Stop Go.Stop Go.Extern

theorem as_nil (t : Value) (w : World) : Calls Tryz.prog 21 #[.nilIface, t] w fun e w' => e = .returned (.bool false) ∧ w' = w := by
 go_enter Tryz.func21, Tryz.ntmps21
 go_wp2
 go_ret
 exact ⟨rfl, rfl⟩
theorem Tryz.valueOf65 (t : Addr) (w : World) : (ReflectliteValue.unpack (.iface 58 (.pointer (some t)))).run Tryz.prog w = .ok (.agg #[.pointer (some ⟨7, 58, none⟩), .pointer (some ⟨w.heap.size, 0, none⟩), .int .u64 150]) (w.alloc (.cells #[.pointer (some t)] 58)) := by kernel_rfl
theorem Tryz.type65 (a : Addr) (w : World) : (ReflectliteValue.methodAny (ReflectliteValue.valueError "reflectlite.Value.Type" 0) (fun t _ _ _ => ReflectliteType.toType t) #[.agg #[.pointer (some ⟨7, 58, none⟩), .pointer (some a), .int .u64 150]]).run Tryz.prog w = .ok (.iface 91 (.agg #[.pointer (some ⟨7, 58, none⟩)])) w := by kernel_rfl
theorem Tryz.methodKind (h : Value) (w : World) : (Go.method 310 91 (.agg #[h]) "Kind").run Tryz.prog w = .ok (126, h) w := by kernel_rfl
theorem Tryz.kind65 (w : World) : ((ReflectliteType.abiMethod fun t => (fun a : Nat => Value.int IntKind.u8 (a : Int)) <$> Rtype.kind t) #[.pointer (some ⟨7, 58, none⟩)]).run Tryz.prog w = .ok (.int .u8 22) w := by kernel_rfl
theorem Tryz.kind63 (w : World) : ((ReflectliteType.abiMethod fun t => (fun a : Nat => Value.int IntKind.u8 (a : Int)) <$> Rtype.kind t) #[.pointer (some ⟨7, 56, none⟩)]).run Tryz.prog w = .ok (.int .u8 25) w := by kernel_rfl
theorem rlm (z : Sem Value) (f : TypeId → Addr → Nat → Nat → Sem Value) (v : Value) :
  ReflectliteValue.method z f #[v] = (do match ← ReflectliteValue.parts v with | none => z | some (t, a, fl) => f t a fl (fl % 32)) := rfl
theorem Tryz.parts65 (a : Addr) (w : World) : (ReflectliteValue.parts (.agg #[.pointer (some ⟨7, 58, none⟩), .pointer (some a), .int .u64 150])).run Tryz.prog w = .ok (some (58, a, 150)) w := by kernel_rfl
theorem Tryz.isNil65 (a p : Addr) (W : World) (ha : W.cell? a = some (.pointer (some p))) :
  (ReflectliteValue.method (ReflectliteValue.valueError "reflectlite.Value.IsNil" 0) ReflectliteValue.isNil #[.agg #[.pointer (some ⟨7, 58, none⟩), .pointer (some a), .int .u64 150]]).run Tryz.prog W = .ok (.bool false) W := by
 rw [rlm]
 simp only [Sem.run_bind, Tryz.parts65, Result.andThen]
 simp [ReflectliteValue.isNil, loadVar, isAgg, underlying, Tryz.underlying58, ha, Result.andThen]
theorem Tryz.methodElem (h : Value) (w : World) : (Go.method 310 91 (.agg #[h]) "Elem").run Tryz.prog w = .ok (136, .agg #[h]) w := by kernel_rfl
theorem Tryz.methodImplements (h : Value) (w : World) : (Go.method 310 91 (.agg #[h]) "Implements").run Tryz.prog w = .ok (137, .agg #[h]) w := by kernel_rfl
theorem Tryz.methodAssignableTo (h : Value) (w : World) : (Go.method 310 91 (.agg #[h]) "AssignableTo").run Tryz.prog w = .ok (134, .agg #[h]) w := by kernel_rfl
theorem Tryz.elem65 (w : World) : (ReflectliteType.method ReflectliteType.elem #[.agg #[.pointer (some ⟨7, 58, none⟩)]]).run Tryz.prog w = .ok (.iface 91 (.agg #[.pointer (some ⟨7, 56, none⟩)])) w := by kernel_rfl
theorem Tryz.implements63 (w : World) : (ReflectliteType.relation "Implements" ReflectliteType.implements_ #[.agg #[.pointer (some ⟨7, 56, none⟩)], .iface 91 (.agg #[.pointer (some ⟨7, 52, none⟩)])]).run Tryz.prog w = .ok (.bool true) w := by kernel_rfl
theorem Tryz.typeOf63 (v : Value) (w : World) : (ReflectliteType.typeOf #[.iface 56 v]).run Tryz.prog w = .ok (.iface 91 (.agg #[.pointer (some ⟨7, 56, none⟩)])) w := by kernel_rfl
theorem Tryz.assignable63 (w : World) : (ReflectliteType.relation "AssignableTo" ReflectliteType.assignableTo #[.agg #[.pointer (some ⟨7, 56, none⟩)], .iface 91 (.agg #[.pointer (some ⟨7, 56, none⟩)])]).run Tryz.prog w = .ok (.bool true) w := by kernel_rfl
theorem Tryz.valueOf63 (c : Int) (n : ByteArray) (w : World) : (ReflectliteValue.unpack (.iface 56 (.agg #[.int .i64 c, .string n]))).run Tryz.prog w = .ok (.agg #[.pointer (some ⟨7, 56, none⟩), .pointer (some ⟨w.heap.size, 0, none⟩), .int .u64 153]) (w.alloc (.cells #[.int .i64 c, .string n] 56)) := by kernel_rfl
theorem Tryz.elemOf65 (w : World) : (Rtype.elem? 58).run Tryz.prog w = .ok (some 56) w := by kernel_rfl
theorem Tryz.mk63 (p : Addr) (w : World) : (ReflectliteValue.mk 56 p ReflectliteValue.flagAddr).run Tryz.prog w = .ok (.agg #[.pointer (some ⟨7, 56, none⟩), .pointer (some p), .int .u64 409]) w := by kernel_rfl
theorem Tryz.elemV65 (a p : Addr) (W : World) (ha : W.cell? a = some (.pointer (some p))) :
  (ReflectliteValue.method (ReflectliteValue.valueError "reflectlite.Value.Elem" 0) ReflectliteValue.elem #[.agg #[.pointer (some ⟨7, 58, none⟩), .pointer (some a), .int .u64 150]]).run Tryz.prog W = .ok (.agg #[.pointer (some ⟨7, 56, none⟩), .pointer (some p), .int .u64 409]) W := by
 rw [rlm]
 simp only [Sem.run_bind, Tryz.parts65, Result.andThen]
 simp [ReflectliteValue.elem, loadVar, isAgg, underlying, Tryz.underlying58, ha, Result.andThen, Tryz.elemOf65, Tryz.mk63]
theorem rls (v x : Value) : ReflectliteValue.set #[v, x] = (do
  let (some (dst, a, fl), some (src, b, _)) := (← ReflectliteValue.parts v, ← ReflectliteValue.parts x)
   | unsupported (.noEntry "extern/(internal/reflectlite.Value).Set.zeroValue")
  if fl / ReflectliteValue.flagAddr % 2 == 0 then unsupported (.noEntry "extern/(internal/reflectlite.Value).Set.unaddressable")
  let val ← loadVar src b
  if ← Rtype.directlyAssignable dst src then storeVar dst a val
  else if ← Rtype.implements dst src then
   if (← Rtype.kind src) == 20 then
    match val with
    | .nilIface => unsupported (.noEntry "extern/reflectlite: a nil value of one interface type handed on as a value of another")
    | _ => storeVar dst a val
   else storeVar dst a (.iface src val)
  else panicString ("reflectlite.Set: value of type " ++ (← Rtype.spelt src) ++ " is not assignable to type " ++ (← Rtype.spelt dst))
  pure (.tuple #[])) := rfl
theorem Tryz.parts63a (a : Addr) (w : World) : (ReflectliteValue.parts (.agg #[.pointer (some ⟨7, 56, none⟩), .pointer (some a), .int .u64 409])).run Tryz.prog w = .ok (some (56, a, 409)) w := by kernel_rfl
theorem Tryz.parts63 (a : Addr) (w : World) : (ReflectliteValue.parts (.agg #[.pointer (some ⟨7, 56, none⟩), .pointer (some a), .int .u64 153])).run Tryz.prog w = .ok (some (56, a, 153)) w := by kernel_rfl
theorem Tryz.direct63 (w : World) : (Rtype.directlyAssignable 56 56).run Tryz.prog w = .ok true w := by kernel_rfl
theorem Tryz.load63 (b : Nat) (c : Int) (n : ByteArray) (W : World) (hb0 : W.cell? ⟨b, 0, none⟩ = some (.int .i64 c)) (hb1 : W.cell? ⟨b, 1, none⟩ = some (.string n)) : (loadVar 56 ⟨b, 0, none⟩).run Tryz.prog W = .ok (.agg #[.int .i64 c, .string n]) W := by
 simp [loadVar, go_sem, Tryz.isAgg56, Tryz.sizeOf56, hb0, hb1]
theorem Tryz.store63 (B : Nat) (c : Int) (n : ByteArray) (o0 o1 : Value) (W : World) (ht0 : W.cell? ⟨B, 0, none⟩ = some o0) (ht1 : W.cell? ⟨B, 1, none⟩ = some o1) (hf0 : W.frozen? ⟨B, 0, none⟩ = false) (hf1 : W.frozen? ⟨B, 1, none⟩ = false) :
  (storeVar 56 ⟨B, 0, none⟩ (.agg #[.int .i64 c, .string n])).run Tryz.prog W = .ok () ((W.setCell ⟨B, 0, none⟩ (.int .i64 c)).setCell ⟨B, 1, none⟩ (.string n)) := by
 simp [storeVar, go_sem, Tryz.sizeOf56, ht0, ht1, hf0, hf1]
theorem Tryz.set63 (B b : Nat) (c : Int) (n : ByteArray) (o0 o1 : Value) (W : World) (hb0 : W.cell? ⟨b, 0, none⟩ = some (.int .i64 c)) (hb1 : W.cell? ⟨b, 1, none⟩ = some (.string n)) (ht0 : W.cell? ⟨B, 0, none⟩ = some o0) (ht1 : W.cell? ⟨B, 1, none⟩ = some o1) (hf0 : W.frozen? ⟨B, 0, none⟩ = false) (hf1 : W.frozen? ⟨B, 1, none⟩ = false) :
  (ReflectliteValue.set #[.agg #[.pointer (some ⟨7, 56, none⟩), .pointer (some ⟨B, 0, none⟩), .int .u64 409], .agg #[.pointer (some ⟨7, 56, none⟩), .pointer (some ⟨b, 0, none⟩), .int .u64 153]]).run Tryz.prog W = .ok (.tuple #[]) ((W.setCell ⟨B, 0, none⟩ (.int .i64 c)).setCell ⟨B, 1, none⟩ (.string n)) := by
 rw [rls]
 simp only [Sem.run_bind, Tryz.parts63a, Tryz.parts63, Result.andThen]
 simp [ReflectliteValue.flagAddr, Tryz.load63 b c n W hb0 hb1, Result.andThen, Tryz.direct63, Tryz.store63 B c n o0 o1 W ht0 ht1 hf0 hf1]
set_option maxHeartbeats 4000000 in
theorem as_in (c : Int) (n : ByteArray) (B V : Nat) (o0 o1 : Value) (w : World) (hV : w.cell? ⟨V, 0, none⟩ = some (.pointer (some ⟨B, 0, none⟩))) (ht0 : w.cell? ⟨B, 0, none⟩ = some o0) (ht1 : w.cell? ⟨B, 1, none⟩ = some o1) (hf0 : w.frozen? ⟨B, 0, none⟩ = false) (hf1 : w.frozen? ⟨B, 1, none⟩ = false) :
  Calls Tryz.prog 44 #[.iface 56 (.agg #[.int .i64 c, .string n]), .iface 58 (.pointer (some ⟨B, 0, none⟩)), .agg #[.pointer (some ⟨7, 58, none⟩), .pointer (some ⟨V, 0, none⟩), .int .u64 150], .iface 91 (.agg #[.pointer (some ⟨7, 56, none⟩)])] w fun ev w' => ev = .returned (.bool true) ∧
   w' = (((w.setCell ⟨B, 0, none⟩ (.int .i64 c)).setCell ⟨B, 1, none⟩ (.string n)).alloc (.cells #[.pointer (some ⟨7, 58, none⟩), .pointer (some ⟨V, 0, none⟩), .int .u64 150] 75)).alloc (.cells #[.int .i64 c, .string n] 56) := by
 have h74 := @run_callFunc_extern Tryz.prog 41 _ (fun args => ReflectliteValue.unpack (args.getD 0 (.tuple #[]))) Tryz.func41 (by kernel_rfl) (by kernel_rfl) (by kernel_rfl) (by kernel_rfl)
 have h103 := @run_callFunc_extern Tryz.prog 58 _ ReflectliteType.typeOf Tryz.func58 (by kernel_rfl) (by kernel_rfl) (by kernel_rfl) (by kernel_rfl)
 have h215 := @run_callFunc_extern Tryz.prog 134 _ (ReflectliteType.relation "AssignableTo" ReflectliteType.assignableTo) Tryz.func134 (by kernel_rfl) (by kernel_rfl) (by kernel_rfl) (by kernel_rfl)
 have h104 := @run_callFunc_extern Tryz.prog 59 _ (ReflectliteValue.method (ReflectliteValue.valueError "reflectlite.Value.Elem" 0) ReflectliteValue.elem) Tryz.func59 (by kernel_rfl) (by kernel_rfl) (by kernel_rfl) (by kernel_rfl)
 have h105 := @run_callFunc_extern Tryz.prog 60 _ ReflectliteValue.set Tryz.func60 (by kernel_rfl) (by kernel_rfl) (by kernel_rfl) (by kernel_rfl)
 have tO := Tryz.typeOf63
 have mA := Tryz.methodAssignableTo
 have a63 := Tryz.assignable63
 have v63 := Tryz.valueOf63
 have lV : V < w.heap.size := World.block_lt_of_cell? w _ hV
 have lB : B < w.heap.size := World.block_lt_of_cell? w _ ht0
 have el := Tryz.elemV65 ⟨V, 0, none⟩ ⟨B, 0, none⟩ (w.alloc (.cells #[.pointer (some ⟨7, 58, none⟩), .pointer (some ⟨V, 0, none⟩), .int .u64 150] 75)) (by rw [World.cell?_alloc_lt _ _ _ lV]; exact hV)
 have st := Tryz.set63 B (w.heap.size + 1) c n o0 o1 ((w.alloc (.cells #[.pointer (some ⟨7, 58, none⟩), .pointer (some ⟨V, 0, none⟩), .int .u64 150] 75)).alloc (.cells #[.int .i64 c, .string n] 56))
  (by rw [World.cell?_alloc_at _ _ _ _ (by simp)]; rfl) (by rw [World.cell?_alloc_at _ _ _ _ (by simp)]; rfl)
  (by rw [World.cell?_alloc_lt _ _ _ (by simp; omega), World.cell?_alloc_lt _ _ _ lB]; exact ht0) (by rw [World.cell?_alloc_lt _ _ _ (by simp; omega), World.cell?_alloc_lt _ _ _ lB]; exact ht1)
  (by rw [World.frozen?_alloc_old _ _ _ (by simp; omega), World.frozen?_alloc_old _ _ _ (Nat.ne_of_lt lB)]; exact hf0) (by rw [World.frozen?_alloc_old _ _ _ (by simp; omega), World.frozen?_alloc_old _ _ _ (Nat.ne_of_lt lB)]; exact hf1)
 go_enter Tryz.func44, Tryz.ntmps44
 go_wp2
 refine wp_loop_rounds 1 ?_
 rw [rounds_succ]
 go_wp2
 go_ret
 exact ⟨rfl, rfl⟩
theorem as_world {w : World} {B : Nat} {o0 o1 : Value} (h : w.heap[B]? = some (.cells #[o0, o1] 56 (0, 0))) (c : Int) (n : ByteArray) (a b : Obj) : w.grownBy ((((w.setCell ⟨B, 0, none⟩ (.int .i64 c)).setCell ⟨B, 1, none⟩ (.string n)).alloc a).alloc b) (some B) ∧ ((((w.setCell ⟨B, 0, none⟩ (.int .i64 c)).setCell ⟨B, 1, none⟩ (.string n)).alloc a).alloc b).heap[B]? = some (.cells #[.int .i64 c, .string n] 56 (0, 0)) := by
 have hl : B < w.heap.size := (Array.getElem?_eq_some_iff.1 h).1
 have z1 : ((w.setCell ⟨B, 0, none⟩ (.int .i64 c)).setCell ⟨B, 1, none⟩ (.string n)).heap.size = w.heap.size := by simp [World.setCell]
 refine ⟨⟨rfl, rfl, rfl, by simp [World.setCell]; omega, fun q hq hne => ?_⟩, ?_⟩
 ·rw [Lib.alloc_old _ _ _ (by simp [World.setCell]; omega), Lib.alloc_old _ _ _ (by rw [z1]; exact hq), Below.heap_setCell _ _ _ _ (fun e => hne (by rw [e])), Below.heap_setCell _ _ _ _ (fun e => hne (by rw [e]))]
 ·rw [Lib.alloc_old _ _ _ (by simp [World.setCell]; omega), Lib.alloc_old _ _ _ (by rw [z1]; exact hl), heap_setCell_same _ B 1 _ 56 _ (heap_setCell_same _ B 0 _ 56 _ h)]
  rfl
set_option maxHeartbeats 4000000 in
theorem as_hit (c : Int) (n : ByteArray) (B : Nat) (o0 o1 : Value) (w : World) (hg : w.cell? ⟨0, 0, none⟩ = some (.iface 91 (.agg #[.pointer (some ⟨7, 52, none⟩)]))) (hB : w.heap[B]? = some (.cells #[o0, o1] 56 (0, 0))) :
  Calls Tryz.prog 21 #[.iface 56 (.agg #[.int .i64 c, .string n]), .iface 58 (.pointer (some ⟨B, 0, none⟩))] w fun ev w' => ev = .returned (.bool true) ∧ w.grownBy w' (some B) ∧ w'.heap[B]? = some (.cells #[.int .i64 c, .string n] 56 (0, 0)) := by
 have h74 := @run_callFunc_extern Tryz.prog 41 _ (fun args => ReflectliteValue.unpack (args.getD 0 (.tuple #[]))) Tryz.func41 (by kernel_rfl) (by kernel_rfl) (by kernel_rfl) (by kernel_rfl)
 have h75 := @run_callFunc_extern Tryz.prog 42 _ (ReflectliteValue.methodAny (ReflectliteValue.valueError "reflectlite.Value.Type" 0) (fun t _ _ _ => ReflectliteType.toType t)) Tryz.func42 (by kernel_rfl) (by kernel_rfl) (by kernel_rfl) (by kernel_rfl)
 have h76 := @run_callFunc_extern Tryz.prog 43 _ (ReflectliteValue.method (ReflectliteValue.valueError "reflectlite.Value.IsNil" 0) ReflectliteValue.isNil) Tryz.func43 (by kernel_rfl) (by kernel_rfl) (by kernel_rfl) (by kernel_rfl)
 have h206 := @run_callFunc_extern Tryz.prog 126 _ (ReflectliteType.abiMethod fun t => do pure (.int .u8 (← Rtype.kind t))) Tryz.func126 (by kernel_rfl) (by kernel_rfl) (by kernel_rfl) (by kernel_rfl)
 have h217 := @run_callFunc_extern Tryz.prog 136 _ (ReflectliteType.method ReflectliteType.elem) Tryz.func136 (by kernel_rfl) (by kernel_rfl) (by kernel_rfl) (by kernel_rfl)
 have h218 := @run_callFunc_extern Tryz.prog 137 _ (ReflectliteType.relation "Implements" ReflectliteType.implements_) Tryz.func137 (by kernel_rfl) (by kernel_rfl) (by kernel_rfl) (by kernel_rfl)
 have f6 := Tryz.valueOf65
 have f7 := Tryz.type65
 have mK := Tryz.methodKind
 have mE := Tryz.methodElem
 have mI := Tryz.methodImplements
 have k65 := Tryz.kind65
 have k63 := Tryz.kind63
 have e65 := Tryz.elem65
 have i63 := Tryz.implements63
 have hl : B < w.heap.size := (Array.getElem?_eq_some_iff.1 hB).1
 have hlt : 0 < w.heap.size := by omega
 have n8 := Tryz.isNil65 ⟨w.heap.size, 0, none⟩ ⟨B, 0, none⟩ ((w.alloc (.cells #[.pointer (some ⟨B, 0, none⟩)] 58)).alloc (.cells #[.pointer (some ⟨7, 58, none⟩), .pointer (some ⟨w.heap.size, 0, none⟩), .int .u64 150] 75)) (by simp)
 have hg2 : ((w.alloc (.cells #[.pointer (some ⟨B, 0, none⟩)] 58)).alloc (.cells #[.pointer (some ⟨7, 58, none⟩), .pointer (some ⟨w.heap.size, 0, none⟩), .int .u64 150] 75)).cell? ⟨0, 0, none⟩ = some (.iface 91 (.agg #[.pointer (some ⟨7, 52, none⟩)])) := by
  rw [World.cell?_alloc_lt _ _ ⟨0, 0, none⟩ (by simp), World.cell?_alloc_lt _ _ ⟨0, 0, none⟩ hlt]; exact hg
 have hB2 : ((w.alloc (.cells #[.pointer (some ⟨B, 0, none⟩)] 58)).alloc (.cells #[.pointer (some ⟨7, 58, none⟩), .pointer (some ⟨w.heap.size, 0, none⟩), .int .u64 150] 75)).heap[B]? = some (.cells #[o0, o1] 56 (0, 0)) := by
  rw [Lib.alloc_old _ _ _ (by simp; omega), Lib.alloc_old _ _ _ hl]; exact hB
 have HW := mkHid (fun a b => as_world hB2 c n a b)
 have HC := mkHid (as_in c n B w.heap.size o0 o1 ((w.alloc (.cells #[.pointer (some ⟨B, 0, none⟩)] 58)).alloc (.cells #[.pointer (some ⟨7, 58, none⟩), .pointer (some ⟨w.heap.size, 0, none⟩), .int .u64 150] 75)) (by simp) (by rw [Lib.cell_of_heap hB2]; rfl) (by rw [Lib.cell_of_heap hB2]; rfl) (Lib.frozen_of_heap hB2 0) (Lib.frozen_of_heap hB2 1))
 clear hB2
 go_enter Tryz.func21, Tryz.ntmps21
 go_wp2_with (go_at_call 44; refine HC.out.mono ?_; rintro e w' ⟨rfl, hw'⟩; have HG := mkHid (show ((w.alloc (.cells #[.pointer (some ⟨B, 0, none⟩)] 58)).alloc (.cells #[.pointer (some ⟨7, 58, none⟩), .pointer (some ⟨w.heap.size, 0, none⟩), .int .u64 150] 75)).grownBy w' (some B) ∧ w'.heap[B]? = some (.cells #[.int .i64 c, .string n] 56 (0, 0)) from by rw [hw']; exact HW.out _ _); clear hw')
 go_ret
 exact ⟨rfl, ((World.grownBy_alloc w _ _).trans (World.grownBy_alloc _ _ _)).trans HG.out.1, HG.out.2⟩
end Go.Proofs.YtpebfdplapeejaaGreatDoor
