/-
  CONTRACTS of the printer's expr and part.
-/
import Derived.Test.YtpebfdplapeejaaGreatDoorMPex
namespace Go.Proofs.YtpebfdplapeejaaGreatDoor
open Go.RowKit
open Pl

def exT (t : T) : List UInt8 := (exS t).data.toList
def PEx (t : T) : Prop := match t with
  | .node k s m kk => ∀ (W0 : World) (dp : Int) (B b : Nat) (l : List UInt8) (a : Option Addr) (c : Nat) (w : World), Good t → cnt t ≤ 500 → Kids W0 0 a kk → Around W0 dp B b l w → l.length + (exS t).size ≤ 100000000000000 →
    Calls Tryz.prog 87 #[.pointer (some ⟨b, 0, none⟩), .agg #[.int .i64 k, .string s, .int .i64 m, .slice a kk.length c]] w (Wrote dp B b (l ++ exT t) w)
theorem World.heap_alloc_new (w : World) (cs : Array Value) (e : TypeId) : (w.alloc (.cells cs e)).heap[w.heap.size]? = some (.cells cs e (0, 0)) := by
  show (w.heap.push (.cells cs e (0, 0)))[w.heap.size]? = _
  simp
theorem ta56_56 (W : World) : (Instr.typeAssert (.iface 134 (.agg #[])) 121 134 true).run Tryz.prog W = .ok (.tuple #[(.agg #[]), .bool true]) W := by kernel_rfl
theorem ta58_56 (W : World) : (Instr.typeAssert (.iface 135 (.agg #[])) 121 134 true).run Tryz.prog W = .ok (.tuple #[.agg #[], .bool false]) W := by kernel_rfl
theorem ta58_58 (W : World) : (Instr.typeAssert (.iface 135 (.agg #[])) 121 135 true).run Tryz.prog W = .ok (.tuple #[(.agg #[]), .bool true]) W := by kernel_rfl
theorem ta59_56 (W : World) : (Instr.typeAssert (.iface 137 (.agg #[])) 121 134 true).run Tryz.prog W = .ok (.tuple #[.agg #[], .bool false]) W := by kernel_rfl
theorem ta59_58 (W : World) : (Instr.typeAssert (.iface 137 (.agg #[])) 121 135 true).run Tryz.prog W = .ok (.tuple #[.agg #[], .bool false]) W := by kernel_rfl
theorem ta59_59 (W : World) : (Instr.typeAssert (.iface 137 (.agg #[])) 121 137 true).run Tryz.prog W = .ok (.tuple #[(.agg #[]), .bool true]) W := by kernel_rfl
theorem ta60_56 (W : World) : (Instr.typeAssert (.iface 136 (.agg #[])) 121 134 true).run Tryz.prog W = .ok (.tuple #[.agg #[], .bool false]) W := by kernel_rfl
theorem ta60_58 (W : World) : (Instr.typeAssert (.iface 136 (.agg #[])) 121 135 true).run Tryz.prog W = .ok (.tuple #[.agg #[], .bool false]) W := by kernel_rfl
theorem ta60_59 (W : World) : (Instr.typeAssert (.iface 136 (.agg #[])) 121 137 true).run Tryz.prog W = .ok (.tuple #[.agg #[], .bool false]) W := by kernel_rfl
theorem ta60_60 (W : World) : (Instr.typeAssert (.iface 136 (.agg #[])) 121 136 true).run Tryz.prog W = .ok (.tuple #[(.agg #[]), .bool true]) W := by kernel_rfl
theorem ta61_56 (W : World) : (Instr.typeAssert (.iface 138 (.agg #[])) 121 134 true).run Tryz.prog W = .ok (.tuple #[.agg #[], .bool false]) W := by kernel_rfl
theorem ta61_58 (W : World) : (Instr.typeAssert (.iface 138 (.agg #[])) 121 135 true).run Tryz.prog W = .ok (.tuple #[.agg #[], .bool false]) W := by kernel_rfl
theorem ta61_59 (W : World) : (Instr.typeAssert (.iface 138 (.agg #[])) 121 137 true).run Tryz.prog W = .ok (.tuple #[.agg #[], .bool false]) W := by kernel_rfl
theorem ta61_60 (W : World) : (Instr.typeAssert (.iface 138 (.agg #[])) 121 136 true).run Tryz.prog W = .ok (.tuple #[.agg #[], .bool false]) W := by kernel_rfl
theorem ta61_61 (W : World) : (Instr.typeAssert (.iface 138 (.agg #[])) 121 138 true).run Tryz.prog W = .ok (.tuple #[(.agg #[]), .bool true]) W := by kernel_rfl
theorem ta64_56 (g : ByteArray) (W : World) : (Instr.typeAssert (.iface 140 (.agg #[.string g])) 121 134 true).run Tryz.prog W = .ok (.tuple #[.agg #[], .bool false]) W := by kernel_rfl
theorem ta64_58 (g : ByteArray) (W : World) : (Instr.typeAssert (.iface 140 (.agg #[.string g])) 121 135 true).run Tryz.prog W = .ok (.tuple #[.agg #[], .bool false]) W := by kernel_rfl
theorem ta64_59 (g : ByteArray) (W : World) : (Instr.typeAssert (.iface 140 (.agg #[.string g])) 121 137 true).run Tryz.prog W = .ok (.tuple #[.agg #[], .bool false]) W := by kernel_rfl
theorem ta64_60 (g : ByteArray) (W : World) : (Instr.typeAssert (.iface 140 (.agg #[.string g])) 121 136 true).run Tryz.prog W = .ok (.tuple #[.agg #[], .bool false]) W := by kernel_rfl
theorem ta64_61 (g : ByteArray) (W : World) : (Instr.typeAssert (.iface 140 (.agg #[.string g])) 121 138 true).run Tryz.prog W = .ok (.tuple #[.agg #[], .bool false]) W := by kernel_rfl
theorem ta64_64 (g : ByteArray) (W : World) : (Instr.typeAssert (.iface 140 (.agg #[.string g])) 121 140 true).run Tryz.prog W = .ok (.tuple #[(.agg #[.string g]), .bool true]) W := by kernel_rfl
theorem ta66_56 (g : ByteArray) (W : World) : (Instr.typeAssert (.iface 144 (.agg #[.string g])) 121 134 true).run Tryz.prog W = .ok (.tuple #[.agg #[], .bool false]) W := by kernel_rfl
theorem ta66_58 (g : ByteArray) (W : World) : (Instr.typeAssert (.iface 144 (.agg #[.string g])) 121 135 true).run Tryz.prog W = .ok (.tuple #[.agg #[], .bool false]) W := by kernel_rfl
theorem ta66_59 (g : ByteArray) (W : World) : (Instr.typeAssert (.iface 144 (.agg #[.string g])) 121 137 true).run Tryz.prog W = .ok (.tuple #[.agg #[], .bool false]) W := by kernel_rfl
theorem ta66_60 (g : ByteArray) (W : World) : (Instr.typeAssert (.iface 144 (.agg #[.string g])) 121 136 true).run Tryz.prog W = .ok (.tuple #[.agg #[], .bool false]) W := by kernel_rfl
theorem ta66_61 (g : ByteArray) (W : World) : (Instr.typeAssert (.iface 144 (.agg #[.string g])) 121 138 true).run Tryz.prog W = .ok (.tuple #[.agg #[], .bool false]) W := by kernel_rfl
theorem ta66_64 (g : ByteArray) (W : World) : (Instr.typeAssert (.iface 144 (.agg #[.string g])) 121 140 true).run Tryz.prog W = .ok (.tuple #[.agg #[.string ⟨#[]⟩], .bool false]) W := by kernel_rfl
theorem ta66_66 (g : ByteArray) (W : World) : (Instr.typeAssert (.iface 144 (.agg #[.string g])) 121 144 true).run Tryz.prog W = .ok (.tuple #[(.agg #[.string g]), .bool true]) W := by kernel_rfl
theorem put_new (W0 : World) (dp : Int) (B b : Nat) (l : List UInt8) (ts : List ByteArray) (cs : Array Value) (tb : Nat) (w : World) (htb : tb = w.heap.size) (h : Around W0 dp B b l w) (hlen : l.length + (cat ts).length ≤ 140737488355328) (hn : ts.length ≤ 1000) (hcs : cs = (ts.map Value.string).toArray) :
    Calls Tryz.prog 79 #[.pointer (some ⟨b, 0, none⟩), .slice (some ⟨tb, 0, none⟩) ts.length ts.length] (w.alloc (.cells cs 9)) fun e w' => Wrote dp B b (l ++ cat ts) w e w' := by
  subst htb
  have h1 := h.alloc (.cells cs 9)
  refine (put_any dp B b l ts w.heap.size _ h1.pr hlen hn h1.hi ⟨cs, World.heap_alloc_new w cs 9, fun i x hx => ?_⟩).mono ?_
  · subst hcs
    simp [hx]
  · rintro e w' ⟨he, hp, hb, hk⟩
    refine ⟨he, hp, ?_, ?_⟩
    · exact ((Below.refl B w).alloc h.hi _).trans hb
    · exact ((Lib.OthersKept.refl 5 (some b) w).alloc _).trans hk

set_option maxRecDepth 100000 in
set_option maxHeartbeats 1600000 in
theorem pEx_var (s : ByteArray) (m : Int) : PEx (.node 2 s m []) := by
  intro W0 dp B b l a c w hg hc hk har hl
  obtain ⟨hs, _⟩ := good_shape hg
  have hT : exT (.node 2 s m []) = cat [s] := by unfold exT; rw [exS0]; simp [lay, cat]
  rw [hT]
  have HF := mkHid (fun W => formOf_val 2 W (by omega))
  have t1 := ta58_56
  have t2 := ta58_58
  have A0 := har.alloc (.cells #[.int .i64 2, .string s, .int .i64 m, .slice a 0 c] 33)
  show Calls Tryz.prog 87 #[.pointer (some ⟨b, 0, none⟩), .agg #[.int .i64 2, .string s, .int .i64 m, .slice a 0 c]] w _
  go_enter Tryz.func87, Tryz.ntmps87
  go_wp2_with fail
  refine (HF.out _).mono ?_
  rintro e w1 ⟨rfl, rfl⟩
  rw [show typI 2 = 135 from rfl, show formVal 2 = .agg #[] from rfl]
  go_wp2_with fail
  refine (put_new W0 dp B b l [s] #[.string s] _ _ (by simp) (A0.alloc (.cells #[] 135)) (by rw [← hT]; unfold exT; rw [← Lib.size_eq]; omega) (by simp) rfl).mono ?_
  rintro e w2 ⟨rfl, hp, hb, hk2⟩
  have K1 := mkHid hp
  have K2 := mkHid ((((Below.refl B w).alloc har.hi _).alloc (Nat.le_trans har.hi (by simp)) _).trans hb)
  have K3 := mkHid ((((Lib.OthersKept.refl 5 (some b) w).alloc _).alloc _).trans hk2)
  clear hp hb hk2 A0
  go_wp2
  go_end0
  exact ⟨rfl, K1.out, K2.out, K3.out⟩

set_option maxRecDepth 100000 in
set_option maxHeartbeats 1600000 in
theorem pEx_len (s : ByteArray) (m : Int) : PEx (.node 4 s m []) := by
  intro W0 dp B b l a c w hg hc hk har hl
  have hT : exT (.node 4 s m []) = cat [⟨#[108, 101, 110, 40]⟩, s, ⟨#[41]⟩] := by unfold exT; rw [exS0]; simp [lay, cat]
  rw [hT]
  have HF := mkHid (fun W => formOf_val 4 W (by omega))
  have t56 := ta59_56
  have t58 := ta59_58
  have t59 := ta59_59
  have A0 := har.alloc (.cells #[.int .i64 4, .string s, .int .i64 m, .slice a 0 c] 33)
  show Calls Tryz.prog 87 #[.pointer (some ⟨b, 0, none⟩), .agg #[.int .i64 4, .string s, .int .i64 m, .slice a 0 c]] w _
  go_enter Tryz.func87, Tryz.ntmps87
  go_wp2_with fail
  refine (HF.out _).mono ?_
  rintro e w1 ⟨rfl, rfl⟩
  rw [show typI 4 = 137 from rfl, show formVal 4 = .agg #[] from rfl]
  go_wp2_with fail
  refine (put_new W0 dp B b l [⟨#[108, 101, 110, 40]⟩, s, ⟨#[41]⟩] #[.string ⟨#[108, 101, 110, 40]⟩, .string s, .string ⟨#[41]⟩] _ _ (by simp) (A0.alloc (.cells #[] 137)) (by rw [← hT]; unfold exT; rw [← Lib.size_eq]; omega) (by simp) rfl).mono ?_
  rintro e w2 ⟨rfl, hp, hb, hk2⟩
  have K1 := mkHid hp
  have K2 := mkHid ((((Below.refl B w).alloc har.hi _).alloc (Nat.le_trans har.hi (by simp)) _).trans hb)
  have K3 := mkHid ((((Lib.OthersKept.refl 5 (some b) w).alloc _).alloc _).trans hk2)
  clear hp hb hk2 A0
  go_wp2
  go_end0
  exact ⟨rfl, K1.out, K2.out, K3.out⟩

/-- A node's block stays where the printer writes. -/
theorem node_kept {w w' : World} {b nb : Nat} {C : Array Value} (h : w.heap[nb]? = some (.cells C 33 (0, 0))) (hb : nb ≠ b) (hk : Lib.OthersKept 5 (some b) w w') : w'.heap[nb]? = some (.cells C 33 (0, 0)) :=
  hk nb _ h (by simpa using hb) (by simp)

set_option maxRecDepth 100000 in
set_option maxHeartbeats 1600000 in
theorem part_of (k m : Int) (s : ByteArray) (kk : List T) (IH : PEx (.node k s m kk)) (W0 : World) (dp : Int) (B b : Nat) (l : List UInt8) (a : Option Addr) (c : Nat) (r : Int) (w : World) (hg : Good (.node k s m kk)) (hc : cnt (.node k s m kk) ≤ 500) (hk : Kids W0 0 a kk) (har : Around W0 dp B b l w) (hl : l.length + (par k (exS (.node k s m kk)) (r + 1)).size ≤ 100000000000000) :
    Calls Tryz.prog 93 #[.pointer (some ⟨b, 0, none⟩), .agg #[.int .i64 k, .string s, .int .i64 m, .slice a kk.length c], .int .i64 r] w (Wrote dp B b (l ++ (par k (exS (.node k s m kk)) (r + 1)).data.toList) w) := by
  have HT := mkHid (fun W => ties_any k W)
  have A0 := har.alloc (.cells #[.int .i64 k, .string s, .int .i64 m, .slice a kk.length c] 33)
  have H0 := World.heap_alloc_new w #[.int .i64 k, .string s, .int .i64 m, .slice a kk.length c] 33
  have hblt : w.heap.size ≠ b := by have := har.pr.lt; omega
  have hA : (exS (.node k s m kk)).data.toList.length = (exS (.node k s m kk)).size := (Lib.size_eq _).symm
  by_cases h : tightI k < r + 1
  · have h' : ¬ r ≤ tightI k - 1 := by omega
    have hps : (par k (exS (.node k s m kk)) (r + 1)).size = 1 + (exS (.node k s m kk)).size + 1 := by
      unfold par
      rw [if_pos h, ByteArray.size_append, ByteArray.size_append]
      rfl
    rw [hps] at hl
    have HP := mkHid (show (par k (exS (.node k s m kk)) (r + 1)).data.toList = cat [⟨#[40]⟩] ++ exT (.node k s m kk) ++ cat [⟨#[41]⟩] by
      unfold par
      rw [if_pos h]
      simp [cat, exT])
    generalize (par k (exS (.node k s m kk)) (r + 1)).data.toList = P at HP ⊢
    go_enter Tryz.func93, Tryz.ntmps93
    go_wp2_with fail
    refine (HT.out _).mono ?_
    rintro e w1 ⟨rfl, rfl⟩
    go_wp2_with fail
    refine (put_new W0 dp B b l [⟨#[40]⟩] #[.string ⟨#[40]⟩] _ _ (by simp) A0 (by simp [cat]; omega) (by simp) rfl).mono ?_
    rintro e w2 ⟨rfl, hp, hb, hk2⟩
    have A2 := A0.step hp hb
    have H2 := node_kept H0 hblt hk2
    have K2 := mkHid (((Below.refl B w).alloc har.hi _).trans hb)
    have K3 := mkHid (((Lib.OthersKept.refl 5 (some b) w).alloc _).trans hk2)
    have c0 : w2.cell? ⟨w.heap.size, 0, none⟩ = some (.int .i64 k) := by rw [Lib.cell_of_heap H2]; rfl
    have c1 : w2.cell? ⟨w.heap.size, 1, none⟩ = some (.string s) := by rw [Lib.cell_of_heap H2]; rfl
    have c2 : w2.cell? ⟨w.heap.size, 2, none⟩ = some (.int .i64 m) := by rw [Lib.cell_of_heap H2]; rfl
    have c3 : w2.cell? ⟨w.heap.size, 3, none⟩ = some (.slice a kk.length c) := by rw [Lib.cell_of_heap H2]; rfl
    have AA := mkHid A2
    clear hp hb hk2 A0 H0 H2 A2
    go_wp2_with fail
    refine (IH W0 dp B b _ a c _ hg hc hk AA.out (by simp [cat]; omega)).mono ?_
    rintro e w3 ⟨rfl, hp, hb, hk2⟩
    have A3 := AA.out.step hp hb
    have L2 := mkHid (K2.out.trans hb)
    have L3 := mkHid (K3.out.trans hk2)
    clear hp hb hk2 AA K2 K3 c0 c1 c2 c3
    go_wp2_with fail
    refine (put_new W0 dp B b _ [⟨#[41]⟩] #[.string ⟨#[41]⟩] _ _ rfl A3 (by simp [cat, exT]; omega) (by simp) rfl).mono ?_
    rintro e w4 ⟨rfl, hp, hb, hk2⟩
    rw [List.append_assoc, List.append_assoc, ← List.append_assoc (cat _), ← HP.out] at hp
    have M1 := mkHid hp
    have M2 := mkHid (L2.out.trans hb)
    have M3 := mkHid (L3.out.trans hk2)
    clear hp hb hk2 A3 L2 L3
    go_wp2
    go_end0
    exact ⟨rfl, M1.out, M2.out, M3.out⟩
  · have h' : r ≤ tightI k - 1 := by omega
    have hps : (par k (exS (.node k s m kk)) (r + 1)).size = (exS (.node k s m kk)).size := by
      unfold par
      rw [if_neg h]
    rw [hps] at hl
    have HP := mkHid (show (par k (exS (.node k s m kk)) (r + 1)).data.toList = exT (.node k s m kk) by
      unfold par
      rw [if_neg h]
      rfl)
    generalize (par k (exS (.node k s m kk)) (r + 1)).data.toList = P at HP ⊢
    go_enter Tryz.func93, Tryz.ntmps93
    go_wp2_with fail
    refine (HT.out _).mono ?_
    rintro e w1 ⟨rfl, rfl⟩
    go_wp2_with fail
    refine (IH W0 dp B b l a c _ hg hc hk A0 (by omega)).mono ?_
    rintro e w2 ⟨rfl, hp, hb, hk2⟩
    rw [← HP.out] at hp
    have K1 := mkHid hp
    have K2 := mkHid (((Below.refl B w).alloc har.hi _).trans hb)
    have K3 := mkHid (((Lib.OthersKept.refl 5 (some b) w).alloc _).trans hk2)
    clear hp hb hk2 A0 H0
    go_wp2
    go_end0
    exact ⟨rfl, K1.out, K2.out, K3.out⟩
end Go.Proofs.YtpebfdplapeejaaGreatDoor
