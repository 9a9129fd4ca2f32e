/-
  CONTRACT of the program's Check.
  CONTRACT of the specification's l03Right.
  CONTRACTS of the program's declsOf, SizesOf.
  ROWS OF INTS; CONTRACTS of eqIntS, markIntS, heldIntS.
  CONTRACTS of the specification's l03Sizes, SizesOf.
  CONTRACT of the program's SizesOf.
  PURE: what Parse, Check, SizesOf answer at texts just at a limit and one past it.
-/
import Derived.Test.YtpebfdplapeejaaGreatDoorMCj
import Derived.Test.YtpebfdplapeejaaGreatDoorMCi
import Derived.Test.YtpebfdplapeejaaGreatDoorMBase
import Derived.Deep.AppendLies
import Derived.Deep.Onto
import Derived.Deep.QuietTactic
import Derived.BigQuiet
import Derived.Test.YtpebfdplapeejaaGreatDoorMPu
import Derived.Test.YtpebfdplapeejaaGreatDoorMRpars
namespace Go.Proofs.YtpebfdplapeejaaGreatDoor
open Go.RowKit
open Pl

theorem wrg_size {p : Int → ByteArray → Bool} (t : T) : formedT t = true → ∀ s, wrg p t = some s → s.size ≤ 8 := by
 refine T.induct (P := fun t => formedT t = true → ∀ s, wrg p t = some s → s.size ≤ 8) ?_ t
 intro k s m kk ih hf x hx
 simp only [wrg] at hx
 split at hx
 ·cases hx; exact head_size (formed_parts hf).1
 ·have hkid : ∀ t ∈ kk, formedT t = true := fun t ht => formed_kid hf ht
  clear hf
  induction kk with
  | nil => simp [wrgL] at hx
  | cons y r ih2 =>
   simp only [wrgL] at hx
   cases hy : wrg p y with
   | some z =>
    rw [hy] at hx
    simp at hx
    subst hx
    exact ih y (by simp) (hkid y (by simp)) _ hy
   | none =>
    rw [hy] at hx
    exact ih2 (fun t ht => ih t (by simp [ht])) (by simpa using hx) (fun t ht => hkid t (by simp [ht]))
theorem twice_mem {D r : List T} {s : ByteArray} : twiceD D r = some s → ∃ t ∈ r, nameT t = s := by
 induction r generalizing D with
 | nil => intro h; simp [twiceD] at h
 | cons x r ih =>
  intro h
  simp only [twiceD] at h
  split at h
  ·obtain ⟨t, h1, h2⟩ := ih h; exact ⟨t, by simp [h1], h2⟩
  ·simp at h; exact ⟨x, by simp, h⟩
/-- A name that is told is short; none is told where nothing is wrong. -/
theorem trb_name (t : T) : (trb t).2.size ≤ 8 ∧ ((trb t).1 = 0 → (trb t).2 = ⟨#[]⟩) := by
 unfold trb
 split
 ·rename_i hok
  obtain ⟨h40, _, hf⟩ := ok_formed hok
  obtain ⟨k, s, m, kk⟩ := t
  obtain rfl : k = 40 := h40
  obtain ⟨_, _, D, B, rfl, hD, hBk, hBf, hDf⟩ := prog_parts hf
  have e1 : (kidsOf (.node 40 s m (D ++ [B]))).dropLast = D := by simp [kidsOf]
  have e2 : lastT (kidsOf (.node 40 s m (D ++ [B]))) = B := by simp [kidsOf, lastT]
  rw [e1, e2]
  unfold trbB
  split
  ·exact ⟨by decide, fun h => rfl⟩
  ·split
   ·rename_i s' h
    obtain ⟨t, ht, rfl⟩ := twice_mem h
    have := hDf t ht
    obtain ⟨k', s', m', kk'⟩ := t
    exact ⟨head_size (formed_parts this).1, fun h => by simp at h⟩
   ·split
    ·rename_i s' h
     exact ⟨wrg_size B hBf _ h, fun h => by simp at h⟩
    ·split
     ·rename_i s' h
      exact ⟨wrg_size B hBf _ h, fun h => by simp at h⟩
     ·split
      ·exact ⟨by decide, fun _ => rfl⟩
      ·exact ⟨by decide, fun _ => rfl⟩
 ·exact ⟨by decide, fun _ => rfl⟩
theorem twoc_of {w : World} {b e : Nat} {v0 v1 : Value} (h : w.heap[b]? = some (.cells #[v0, v1] e (0, 0))) : w.cell? ⟨b, 0, none⟩ = some v0 ∧ w.cell? ⟨b, 1, none⟩ = some v1 ∧ w.frozen? ⟨b, 0, none⟩ = false ∧ w.frozen? ⟨b, 1, none⟩ = false :=
 ⟨by rw [Lib.cell_of_heap h]; rfl, by rw [Lib.cell_of_heap h]; rfl, Lib.frozen_of_heap h 0, Lib.frozen_of_heap h 1⟩
theorem belowc2 {B : Nat} {a b : World} (h : Below B a b) {p : Nat} (hp : B ≤ p) (v0 v1 : Value) : Below B a ((b.setCell ⟨p, 0, none⟩ v0).setCell ⟨p, 1, none⟩ v1) :=
 (h.setCell (p := ⟨p, 0, none⟩) hp _).setCell (p := ⟨p, 1, none⟩) hp _
theorem putc2 {w : World} {p e : Nat} {u0 u1 : Value} (h : w.heap[p]? = some (.cells #[u0, u1] e (0, 0))) (v0 v1 : Value) : ((w.setCell ⟨p, 0, none⟩ v0).setCell ⟨p, 1, none⟩ v1).cell? ⟨p, 0, none⟩ = some v0 ∧ ((w.setCell ⟨p, 0, none⟩ v0).setCell ⟨p, 1, none⟩ v1).cell? ⟨p, 1, none⟩ = some v1 := by
 have h2 : ((w.setCell ⟨p, 0, none⟩ v0).setCell ⟨p, 1, none⟩ v1).heap[p]? = some (.cells #[v0, v1] e (0, 0)) := by
  rw [heap_setCell_same _ p 1 _ e _ (heap_setCell_same _ p 0 _ e _ h)]; rfl
 obtain ⟨a, b, _⟩ := twoc_of h2
 exact ⟨a, b⟩
set_option maxRecDepth 100000 in
set_option maxHeartbeats 6400000 in
theorem iCheck_any (k : Int) (s : ByteArray) (m : Int) (kk : List T) (a : Option Addr) (c : Nat) (w : World) (hs : s.size ≤ maxLen) (hn : kk.length ≤ maxLen) (hcap : kk.length ≤ c) (hc9 : c ≤ maxLen) (hk : Kids w 0 a kk) (htab : Lib.TabIs Tryz.prog w "internal/strconv.uint64pow10" .u64 Lib.pow10Tab)
  (hg : w.cell? ⟨0, 0, none⟩ = some (.iface 91 (.agg #[.pointer (some ⟨7, 52, none⟩)]))) :
  Calls Tryz.prog 9 #[.agg #[.int .i64 k, .string s, .int .i64 m, .slice a kk.length c]] w fun e w' => e = .returned (.agg #[.int .i64 (trb (.node k s m kk)).1, .string (trb (.node k s m kk)).2]) ∧ Below w.heap.size w w' := by
 obtain ⟨gg, hgn⟩ := Option.isSome_iff_exists.1 (show (Tryz.prog.globalNamed "internal/strconv.uint64pow10").isSome = true by kernel_rfl)
 have HPO := mkHid (fun W (hW : Below w.heap.size w W) => plainOf_any k s m kk a c W hs hn hcap hc9 (hk.below hW) (Joins.tab_stays hgn htab hW (Nat.le_refl _)))
 have B1 : Below w.heap.size w ((w.alloc (.cells #[.int .i64 k, .string s, .int .i64 m, .slice a kk.length c] 33)).alloc (.cells #[.int .i64 0, .string ⟨#[]⟩] 37)) := ((Below.refl w.heap.size w).alloc (Nat.le_refl _) _).alloc (by simp) _
 have F0 := Four.new w k s m a kk.length c 33
 have F1 := F0.below ((Below.refl _ _).alloc (Nat.le_refl _) (.cells #[.int .i64 0, .string ⟨#[]⟩] 37))
 have h0 := heap_alloc_new (w.alloc (.cells #[.int .i64 k, .string s, .int .i64 m, .slice a kk.length c] 33)) (.cells #[.int .i64 0, .string ⟨#[]⟩] 37)
 have hsz : (w.alloc (.cells #[.int .i64 k, .string s, .int .i64 m, .slice a kk.length c] 33)).heap.size = w.heap.size + 1 := by simp
 rw [hsz] at h0
 obtain ⟨P, hP⟩ : ∃ q, w.heap.size = q := ⟨_, rfl⟩
 obtain ⟨w1, hw1⟩ : ∃ q, (w.alloc (.cells #[.int .i64 k, .string s, .int .i64 m, .slice a kk.length c] 33)).alloc (.cells #[.int .i64 0, .string ⟨#[]⟩] 37) = q := ⟨_, rfl⟩
 rw [hw1] at h0 F1 B1
 rw [hP] at h0 F1
 have HB := mkHid B1
 obtain ⟨p0, p1, p2, p3⟩ := F1
 have HR : Hid (∀ W, Below w1.heap.size w1 W → W.heap[P + 1]? = some (.cells #[.int .i64 0, .string ⟨#[]⟩] 37 (0, 0))) := mkHid (fun W hW => (hW.block (P + 1) (heap_lt' h0)).trans h0)
 have HG := mkHid (fun W (hW : Below w.heap.size w W) => (hW.cell (p := ⟨0, 0, none⟩) (World.block_lt_of_cell? w _ hg)).trans hg)
 obtain ⟨tc, htc⟩ : ∃ q, trb (.node k s m kk) = q := ⟨_, rfl⟩
 have hnm := trb_name (.node k s m kk)
 rw [htc] at hnm
 rw [htc]
 have HTC := mkHid htc
 clear htab hk h0 B1 hg htc
 obtain ⟨cd, nm⟩ := tc
 simp only at hnm
 obtain ⟨hts, hnz⟩ := hnm
 have HNZ := mkHid hnz
 clear hnz
 go_enter Tryz.func9, Tryz.ntmps9
 go_upto_region 3 with (go_at_call 20; refine (HPO.out _ HB.out).mono ?_; rintro e w2 ⟨x, rfl, _, _, hxm, hb2⟩; rw [HTC.out]; obtain ⟨zk, zs, zm, za, zc, zkk⟩ := x; simp only [A.val])
 have A4 : Below w2.heap.size w2 ((w2.alloc (.cells #[.int .i64 zk, .string zs, .int .i64 zm, .slice za zkk.length zc] 33)).alloc (.cells #[.int .i64 0, .string ⟨#[]⟩] 56)) := ((Below.refl _ _).alloc (Nat.le_refl _) _).alloc (by simp) _
 have hB4 := heap_alloc_new (w2.alloc (.cells #[.int .i64 zk, .string zs, .int .i64 zm, .slice za zkk.length zc] 33)) (.cells #[.int .i64 0, .string ⟨#[]⟩] 56)
 rw [show (w2.alloc (.cells #[.int .i64 zk, .string zs, .int .i64 zm, .slice za zkk.length zc] 33)).heap.size = w2.heap.size + 1 by simp] at hB4
 obtain ⟨B, hB⟩ : ∃ q, w2.heap.size = q := ⟨_, rfl⟩
 obtain ⟨w4, hw4⟩ : ∃ q, (w2.alloc (.cells #[.int .i64 zk, .string zs, .int .i64 zm, .slice za zkk.length zc] 33)).alloc (.cells #[.int .i64 0, .string ⟨#[]⟩] 56) = q := ⟨_, rfl⟩
 rw [hw4] at A4 hB4
 rw [hB] at hB4
 rw [hw4, hB]
 have hz2 := hb2.size
 rw [hB] at hz2
 have bel4 := below_step hb2 A4
 have HB4 := mkHid bel4
 have HX4 := mkHid hB4
 clear hw4 A4 hB hb2 hxm
 by_cases hc0 : cd = 0
 ·subst hc0
  obtain rfl := HNZ.out rfl
  rw [show errOf ((0 : Int), (⟨#[]⟩ : ByteArray)) = .nilIface from rfl]
  obtain ⟨z0, z1, z2, z3⟩ := twoc_of (HR.out _ bel4)
  clear hB4 bel4
  go_wp2_with (go_at_call 21; refine (as_nil _ _).mono ?_; rintro e w5 ⟨rfl, rfl⟩)
  obtain ⟨q0, q1⟩ := putc2 (HR.out _ HB4.out) (.int .i64 0) (.string ⟨#[]⟩)
  exact bodyPost_ret (v := .agg #[.int .i64 0, .string ⟨#[]⟩]) (by simp [results, Tryz.results9, go_sem, q0, q1]) rfl ⟨rfl, belowc2 (below_step HB.out HB4.out) (by omega) _ _⟩
 ·rw [show errOf (cd, nm) = .iface 56 (.agg #[.int .i64 cd, .string nm]) by unfold errOf; rw [if_neg hc0]; rfl]
  have HA := mkHid (as_hit cd nm (B + 1) _ _ w4 (HG.out _ (below_step HB.out bel4)) hB4)
  have HC := mkHid (fun W => clone_any nm W (by omega))
  clear hB4 bel4
  go_upto_region 4 with (go_at_call 21; refine HA.out.mono ?_; rintro e w5 ⟨rfl, hg5, hB5⟩)
  have bel5 := HB4.out.grown hg5 HB4.out.size (fun q e => by cases e; omega)
  have HB5 := mkHid bel5
  have hlt := heap_lt' (HR.out _ bel5)
  obtain ⟨y0, y1, _⟩ := twoc_of hB5
  have HY := mkHid hB5
  have hlB := heap_lt' hB5
  clear hg5 bel5 hB5
  go_region_law (first | (go_simp; go_at_call 15; refine (HC.out _).mono ?_; rintro e w6 ⟨rfl, hb6⟩; have HB6 := mkHid (below_step HB5.out.drew hb6); obtain ⟨z0, z1, z2, z3⟩ := twoc_of (HR.out _ HB6.out); obtain ⟨x0, x1, _⟩ := twoc_of ((hb6.block (B + 1) hlB).trans HY.out); clear hb6))
  all_goals
   go_wp2
   obtain ⟨q0, q1⟩ := putc2 (HR.out _ HB6.out) (.int .i64 cd) (.string nm)
   exact bodyPost_ret (v := .agg #[.int .i64 cd, .string nm]) (by simp [results, Tryz.results9, go_sem, q0, q1]) rfl ⟨rfl, belowc2 (below_step HB.out HB6.out) (by omega) _ _⟩
end Go.Proofs.YtpebfdplapeejaaGreatDoor
set_option maxRecDepth 100000
namespace Go.Proofs.YtpebfdplapeejaaGreatDoor
open Go.RowKit
open Pl

theorem fldC (z : Int) (s : ByteArray) (w : World) : (Instr.field 37 (.agg #[.int .i64 z, .string s]) 0).run Tryz.prog w = .ok (.int .i64 z) w := by kernel_rfl
/-- A right program's parts. -/
theorem right_parts {k m : Int} {s : ByteArray} {kk : List T} (h : (trb (.node k s m kk)).1 = 0) : k = 40 ∧ s = ⟨#[]⟩ ∧ m = 0 ∧ ∃ (D : List T) (B : T), kk = D ++ [B] ∧ D.length ≤ 498 ∧ Dk D ∧ (∀ t ∈ D, formedT t = true) := by
 cases hok : okP (.node k s m kk) with
 | false =>
  unfold trb at h
  rw [hok] at h
  simp at h
 | true =>
  obtain ⟨hk40, hcm, hfm⟩ := ok_formed hok
  obtain rfl : k = 40 := hk40
  obtain ⟨rfl, rfl, D, B, rfl, hD, _, _, hDf⟩ := prog_parts hfm
  refine ⟨rfl, rfl, rfl, D, B, rfl, ?_, hD, hDf⟩
  have h1 := len_cnts (D ++ [B])
  simp only [cnt] at hcm
  rw [List.length_append, List.length_singleton] at h1
  omega
end Go.Proofs.YtpebfdplapeejaaGreatDoor
set_option maxRecDepth 100000
namespace Go.Proofs.YtpebfdplapeejaaGreatDoor
open Go.RowKit
open Pl

def declD (L : List T) (kd : Int) : List T := L.filter fun t => decide (kindT t = kd)
def declP (t : T) (kd : Int) : List T := if (trb t).1 = 0 then declD (kidsOf t) kd else []
theorem declD_snoc (L : List T) (t : T) (kd : Int) : declD (L ++ [t]) kd = declD L kd ++ (if kindT t = kd then [t] else []) := by
 unfold declD
 rw [List.filter_append]
 by_cases h : kindT t = kd <;> simp [h]
theorem declD_le (L : List T) (kd : Int) : (declD L kd).length ≤ L.length := List.length_filter_le _ _
/-- The cells of these nodes, their lists wherever they lie. -/
def Raws (ts : List T) (cs : List Value) : Prop := cs.length = ts.length * 4 ∧ ∀ (i : Nat) (t : T), ts[i]? = some t → cs[i * 4]? = some (.int .i64 (kindT t)) ∧ cs[i * 4 + 1]? = some (.string (nameT t)) ∧ cs[i * 4 + 2]? = some (.int .i64 (numT t)) ∧ ∃ (xa : Option Addr) (n xc : Nat), cs[i * 4 + 3]? = some (.slice xa n xc)
theorem Raws.snoc {ts : List T} {cs : List Value} (h : Raws ts cs) (t : T) (xa : Option Addr) (n xc : Nat) : Raws (ts ++ [t]) (cs ++ [.int .i64 (kindT t), .string (nameT t), .int .i64 (numT t), .slice xa n xc]) := by
 obtain ⟨hl, hc⟩ := h
 refine ⟨by rw [List.length_append, List.length_append, hl]; simp; omega, fun i u hu => ?_⟩
 by_cases hi : i < ts.length
 ·rw [List.getElem?_append_left hi] at hu
  obtain ⟨c0, c1, c2, ya, n', yc, c3⟩ := hc i u hu
  rw [List.getElem?_append_left (by omega), List.getElem?_append_left (by omega), List.getElem?_append_left (by omega), List.getElem?_append_left (by omega)]
  exact ⟨c0, c1, c2, ya, n', yc, c3⟩
 ·have hlt := (List.getElem?_eq_some_iff.1 hu).1
  rw [List.length_append, List.length_singleton] at hlt
  obtain rfl : i = ts.length := by omega
  rw [List.getElem?_append_right (Nat.le_refl _), Nat.sub_self] at hu
  obtain rfl : t = u := by simpa using hu
  rw [List.getElem?_append_right (by omega), List.getElem?_append_right (by omega), List.getElem?_append_right (by omega), List.getElem?_append_right (by omega), hl]
  simp
theorem raw_row {w : World} {B n sc : Nat} {sa : Option Addr} {cs : List Value} (h : w.ownsRow B 33 4 (.slice sa n sc) n cs) (h0 : 0 < n) : ∃ g, sa = some ⟨g, 0, none⟩ ∧ B ≤ g ∧ g < w.heap.size ∧ ∀ W, Below w.heap.size w W → ∀ (j : Nat) (u : Value), cs[j]? = some u → W.cell? ⟨g, j, none⟩ = some u := by
 rcases h.2 with ⟨e, hz⟩ | ⟨g, cap, cur, e, hb, hg, h1, h2, h3, h4⟩
 ·omega
 ·simp at e
  obtain ⟨rfl, rfl⟩ := e
  have hl := heap_lt' hg
  refine ⟨g, rfl, hb, hl, fun W hW j u hu => ?_⟩
  rw [Lib.cell_of_heap ((hW.block g hl).trans hg)]
  rw [← h4, List.getElem?_take] at hu
  split at hu
  ·simpa using hu
  ·cases hu
/-- Nodes are answered. -/
def DPost (ts : List T) (w : World) (e : Ending) (w' : World) : Prop := ∃ (ra : Option Addr) (rc : Nat) (cs : List Value), e = .returned (.slice ra ts.length rc) ∧ w'.ownsRow w.heap.size 33 4 (.slice ra ts.length rc) ts.length cs ∧ Raws ts cs ∧ Below w.heap.size w w'
set_option maxHeartbeats 6400000 in
theorem decls_any (k : Int) (s : ByteArray) (m : Int) (kk : List T) (a : Option Addr) (c : Nat) (kd : Int) (w : World) (hs : s.size ≤ maxLen) (hn : kk.length ≤ maxLen) (hcap : kk.length ≤ c) (hc9 : c ≤ maxLen) (hk : Kids w 0 a kk) (htab : Lib.TabIs Tryz.prog w "internal/strconv.uint64pow10" .u64 Lib.pow10Tab)
  (hg : w.cell? ⟨0, 0, none⟩ = some (.iface 91 (.agg #[.pointer (some ⟨7, 52, none⟩)]))) : Calls Tryz.prog 22 #[.agg #[.int .i64 k, .string s, .int .i64 m, .slice a kk.length c], .int .i64 kd] w (DPost (declP (.node k s m kk) kd) w) := by
 obtain ⟨gg, hgn⟩ := Option.isSome_iff_exists.1 (show (Tryz.prog.globalNamed "internal/strconv.uint64pow10").isSome = true by kernel_rfl)
 have HC := mkHid (fun W (hW : Below w.heap.size w W) => iCheck_any k s m kk a c W hs hn hcap hc9 (hk.below hW) (Joins.tab_stays hgn htab hW (Nat.le_refl _)) ((hW.cell (p := ⟨0, 0, none⟩) (World.block_lt_of_cell? w _ hg)).trans hg))
 have B0 := mkHid ((Below.refl w.heap.size w).alloc (Nat.le_refl _) (.cells #[.int .i64 k, .string s, .int .i64 m, .slice a kk.length c] 33))
 have F0 := mkHid (Four.new w k s m a kk.length c 33)
 have HK := mkHid hk
 by_cases h0 : (trb (.node k s m kk)).1 = 0
 ·have hrp := right_parts h0
  obtain ⟨L, hL⟩ : ∃ q, kk = q := ⟨_, rfl⟩
  have hll : kk.length ≤ 1000 := by
   obtain ⟨_, _, _, D, B, e, hl, _⟩ := hrp
   rw [e, List.length_append, List.length_singleton]
   omega
  rw [show declP (.node k s m kk) kd = declD kk kd by unfold declP; rw [if_pos h0]; rfl]
  generalize htr : trb (.node k s m kk) = tr at HC h0
  obtain ⟨cd, nm⟩ := tr
  obtain rfl : cd = 0 := h0
  obtain ⟨i0, hi0, hz0⟩ := Option.map_eq_some_iff.1 Tryz.info33
  simp only [Prod.mk.injEq] at hz0
  obtain ⟨hz1, hz2, hz3⟩ := hz0
  have HI := mkHid (show Tryz.prog.info? 33 = some i0 ∧ i0.zero = some (.agg #[.int .i64 0, .string ByteArray.empty, .int .i64 0, .slice none 0 0]) ∧ i0.size = 4 ∧ i0.bytes = 56 from ⟨hi0, hz1, hz2, hz3⟩)
  clear hs hn hcap hc9 hk htab hg hgn hrp hL htr hi0 hz1 hz2 hz3
  have hfl := fldC
  go_enter Tryz.func22, Tryz.ntmps22
  go_upto_region 3 with (go_at_call 9; refine (HC.out _ B0.out).mono ?_; rintro e w1 ⟨rfl, hb1⟩)
  have B1 := mkHid (below_step B0.out hb1)
  obtain ⟨p0, p1, p2, p3⟩ := F0.out.below hb1
  have HN1 := mkHid (Below.refl w1.heap.size w1)
  clear hb1
  go_wp2
  clear p0 p1 p2 p3
  go_loopg [5, 15] kk.length (fun g s5 s15 wr => ∃ (i : Nat) (ra : Option Addr) (rc : Nat) (cs : List Value), i + g = kk.length ∧ s15 = .int .i64 i ∧ s5 = .slice ra (declD (kk.take i) kd).length rc ∧ wr.ownsRow w1.heap.size 33 4 (.slice ra (declD (kk.take i) kd).length rc) (declD (kk.take i) kd).length cs ∧ Raws (declD (kk.take i) kd) cs ∧ Below w1.heap.size w1 wr)
  case atStart => exact ⟨0, none, 0, [], by omega, rfl, rfl, World.ownsRow_nil _ _ _ _, ⟨rfl, fun i t h => (by simp [declD] at h)⟩, HN1.out⟩
  case round =>
   obtain ⟨i, ra, rc, cs, hig, rfl, rfl, hos, hrw, hbel⟩ := hrel
   have HOS := mkHid hos
   have HRW := mkHid hrw
   have HBL := mkHid hbel
   have hnl : (declD (kk.take i) kd).length ≤ 1000 := by
    have := declD_le (kk.take i) kd
    rw [List.length_take] at this
    omega
   clear hos hrw HN1
   by_cases hil : i < kk.length
   ·obtain ⟨x, hx⟩ : ∃ x, kk[i]? = some x := ⟨_, List.getElem?_eq_getElem hil⟩
    have HNS : Hid (declD (kk.take (i + 1)) kd = declD (kk.take i) kd ++ (if kindT x = kd then [x] else [])) := mkHid (by rw [take_snoc hx, declD_snoc])
    have bel := below_step B1.out hbel
    obtain ⟨xk, xs, xm, xkk⟩ := x
    obtain ⟨b, o, xa, xc, rfl, c0, c1, c2, c3, _, _, _⟩ := node_at HK.out bel hx
    have j0 : (0 : Int) ≤ (i : Int) := by omega
    have j1 : (i : Int) < (kk.length : Int) := by omega
    obtain ⟨g1, rfl⟩ : ∃ q, gk = q + 1 := ⟨gk - 1, by omega⟩
    have w3 : IntKind.i64.wrap ((i : Int) + 1) = (i : Int) + 1 := IntWalk.i64_in _ (by omega)
    have hz1 := hbel.size
    have hA : Below wr.heap.size wr (wr.alloc (.cells #[.int .i64 xk, .string xs, .int .i64 xm, .slice xa xkk.length xc] 33)) := (Below.refl _ _).alloc (Nat.le_refl _) _
    have F1 := Four.new wr xk xs xm xa xkk.length xc 33
    obtain ⟨Y, hY⟩ : ∃ q, wr.heap.size = q := ⟨_, rfl⟩
    obtain ⟨w5, hw5⟩ : ∃ q, wr.alloc (.cells #[.int .i64 xk, .string xs, .int .i64 xm, .slice xa xkk.length xc] 33) = q := ⟨_, rfl⟩
    rw [hw5] at hA F1
    rw [hY] at F1
    obtain ⟨q0, q1, q2, q3⟩ := F1
    have HA := mkHid hA
    obtain ⟨NL, hNL⟩ : ∃ q, declD (kk.take i) kd = q := ⟨_, rfl⟩
    rw [hNL] at HOS HNS HRW hnl
    rw [hNL]
    clear hx hbel bel hA hNL
    by_cases hkd : xk = kd
    ·subst hkd
     rw [show (if kindT (T.node xk xs xm xkk) = xk then [T.node xk xs xm xkk] else []) = [T.node xk xs xm xkk] from if_pos rfl] at HNS
     have O5 := mkHid (owns_below HOS.out HA.out)
     have OW := mkHid (World.ownsRow.alloc O5.out (.cells #[.int .i64 xk, .string xs, .int .i64 xm, .slice xa xkk.length xc] 33))
     have hz5 := HA.out.size
     have hz15 := (below_step HBL.out HA.out).size
     go_wp2_with (first | (at_builtin; refine wpList_append_lies _ rfl _ _ _ rfl w1.heap.size 33 i0 _ 4 56 Tryz.underlying31 HI.out.1 HI.out.2.1 HI.out.2.2.1 HI.out.2.2.2 rfl (by decide) _ _ _ rfl OW.out ⟨w5.heap.size, 0, none⟩ 1 1 [.int .i64 xk, .string xs, .int .i64 xm, .slice xa xkk.length xc] rfl rfl (World.news_of_block (heap_alloc_new w5 _)) (fun u hu => by simp at hu; rcases hu with rfl | rfl | rfl | rfl <;> rfl) (by decide) (by unfold maxLen; omega) (by omega) (by simp; omega) (w5.heap.size + 1) (by simp) ?_; intro g cq w4 hown hgrow hat hlt4) | go_in)
     clear hw5 hY
     have HOW : Hid (w4.ownsRow w1.heap.size 33 4 (.slice (some ⟨g, 0, none⟩) (NL ++ [T.node xk xs xm xkk]).length cq) (NL ++ [T.node xk xs xm xkk]).length (cs ++ [.int .i64 xk, .string xs, .int .i64 xm, .slice xa xkk.length xc])) := mkHid (by rw [List.length_append]; exact hown)
     have HRW2 := mkHid (HRW.out.snoc (.node xk xs xm xkk) xa xkk.length xc)
     have HB4 : Hid (Below w1.heap.size w1 w4) := mkHid (by
      have b5 := below_step HBL.out HA.out
      exact (b5.alloc b5.size (.cells #[.int .i64 xk, .string xs, .int .i64 xm, .slice xa xkk.length xc] 33)).grown hgrow (Nat.le_trans b5.size (by simp)) (fun q e => (World.ownsRow.lt HOS.out q e).1))
     clear hown hgrow hat OW
     go_wp2
     go_roundg g1
     case rel => exact ⟨i + 1, _, _, _, by omega, by simp, by rw [HNS.out, List.length_append]; rfl, by rw [HNS.out]; exact HOW.out, by rw [HNS.out]; exact HRW2.out, HB4.out⟩
     case measure => omega
    ·have hk0 : (xk == kd) = false := by simpa using hkd
     rw [show (if kindT (T.node xk xs xm xkk) = kd then [T.node xk xs xm xkk] else []) = [] from if_neg hkd, List.append_nil] at HNS
     go_wp2_with fail
     first | rw [hw5] | skip
     first | rw [hY] | skip
     clear hw5 hY
     go_wp2
     go_roundg g1
     case rel => exact ⟨i + 1, ra, rc, cs, by omega, by simp, by rw [HNS.out], by rw [HNS.out]; exact owns_below HOS.out HA.out, by rw [HNS.out]; exact HRW.out, below_step HBL.out HA.out⟩
     case measure => omega
   ·have hik : i = kk.length := by omega
    subst hik
    have j1 : ¬ (kk.length : Int) < (kk.length : Int) := by omega
    rw [List.take_length] at HOS HRW ⊢
    go_wp2
    go_ret
    exact ⟨_, _, cs, rfl, ownsRow_mono HOS.out B1.out.size, HRW.out, below_step B1.out HBL.out⟩
 ·rw [show declP (.node k s m kk) kd = [] by unfold declP; rw [if_neg h0]]
  generalize trb (.node k s m kk) = tr at HC h0
  obtain ⟨cd, nm⟩ := tr
  have h1 : (cd == 0) = false := by simpa using h0
  clear hs hn hcap hc9 hk htab hg hgn
  have hfl := fldC
  go_enter Tryz.func22, Tryz.ntmps22
  go_wp2_with (go_at_call 9; refine (HC.out _ B0.out).mono ?_; rintro e w1 ⟨rfl, hb1⟩)
  go_ret
  exact ⟨none, 0, [], rfl, World.ownsRow_nil _ _ _ _, ⟨rfl, fun i t h => (by cases h)⟩, below_step B0.out hb1⟩
end Go.Proofs.YtpebfdplapeejaaGreatDoor
set_option maxRecDepth 100000
namespace Go.Proofs.YtpebfdplapeejaaGreatDoor
open Go.RowKit

def ints (l : List Int) : List Value := l.map (Value.int .i64)
theorem ints_get {l : List Int} {i : Nat} : (ints l)[i]? = (l[i]?).map (Value.int .i64) := by simp [ints]
theorem ints_snoc (l : List Int) (x : Int) : ints l ++ [.int .i64 x] = ints (l ++ [x]) := by simp [ints]
/-- A slice of our own that holds these ints. -/
def OwnI (w : World) (base : Nat) (v : Value) (l : List Int) : Prop := w.ownsRow base 3 1 v l.length (ints l)
theorem OwnI.below {w w' : World} {base : Nat} {v : Value} {l : List Int} (h : OwnI w base v l) (hb : Below w.heap.size w w') : OwnI w' base v l := owns_below h hb
theorem OwnI.form {w : World} {base : Nat} {v : Value} {l : List Int} (h : OwnI w base v l) : ∃ ao cap, v = .slice ao l.length cap := by
  rcases h.2 with ⟨rfl, h0⟩ | ⟨g, cap, cur, rfl, _⟩
  · exact ⟨none, 0, by rw [h0]⟩
  · exact ⟨_, _, rfl⟩
theorem OwnI.mono {w : World} {base base' : Nat} {v : Value} {l : List Int} (h : OwnI w base v l) (hb : base' ≤ base) : OwnI w base' v l := World.ownsRow.mono h hb
theorem OwnI.nil (w : World) (base : Nat) : OwnI w base (.slice none 0 0) [] := ⟨rfl, .inl ⟨rfl, rfl⟩⟩
theorem OwnI.fresh {w' : World} {g base : Nat} (hb : base ≤ g) (hg : w'.heap[g]? = some (.cells #[] 3 (0, 0))) : OwnI w' base (.slice (some ⟨g, 0, none⟩) 0 0) [] :=
  ⟨rfl, .inr ⟨g, 0, #[], rfl, hb, hg, Nat.le_refl _, by unfold maxLen; omega, rfl, rfl⟩⟩
/-- Ints that lie somewhere, to be read. -/
def IntsAt (w : World) (a : Option Addr) (l : List Int) : Prop := l = [] ∨ ∃ b o, a = some ⟨b, o, none⟩ ∧ ∀ (i : Nat) (x : Int), l[i]? = some x → w.cell? ⟨b, o + i, none⟩ = some (.int .i64 x)
theorem IntsAt.below {w w' : World} {a : Option Addr} {l : List Int} (h : IntsAt w a l) (hb : Below w.heap.size w w') : IntsAt w' a l := by
  rcases h with h | ⟨b, o, e, h⟩
  · exact .inl h
  · refine .inr ⟨b, o, e, fun i x hx => ?_⟩
    have h1 := h i x hx
    exact (hb.cell (p := ⟨b, o + i, none⟩) (World.block_lt_of_cell? w _ h1)).trans h1
theorem OwnI.at {w : World} {base : Nat} {ao : Option Addr} {n cap : Nat} {l : List Int} (h : OwnI w base (.slice ao n cap) l) : IntsAt w ao l := by
  rcases h.2 with ⟨e, h0⟩ | ⟨g, cap', cur, e, _⟩
  · exact .inl (List.length_eq_zero_iff.1 h0)
  · simp at e
    obtain ⟨rfl, rfl, rfl⟩ := e
    refine .inr ⟨g, 0, rfl, fun i x hx => ?_⟩
    have hi := (List.getElem?_eq_some_iff.1 hx).1
    have := World.ownsRow.cellAt h i (by omega)
    rw [Nat.zero_add, this, ints_get, hx]; rfl

end Go.Proofs.YtpebfdplapeejaaGreatDoor
namespace Go.Proofs.YtpebfdplapeejaaGreatDoor
open Go.RowKit

end Go.Proofs.YtpebfdplapeejaaGreatDoor
set_option maxRecDepth 100000
namespace Go.Proofs.YtpebfdplapeejaaGreatDoor
open Go.RowKit
open Pl

/-- The sizes of arrays. -/
def sizesD (D : List T) : List Int := (D.filter fun t => decide (kindT t = 32)).map numT
/-- What SizesOf answers. -/
def sizesP (t : T) : List Int := if (trb t).1 = 0 then sizesD (kidsOf t).dropLast else []
/-- Ints are answered. -/
def IPost (l : List Int) (w : World) (e : Ending) (w' : World) : Prop := ∃ (ra : Option Addr) (rc : Nat), e = .returned (.slice ra l.length rc) ∧ OwnI w' w.heap.size (.slice ra l.length rc) l ∧ Below w.heap.size w w'
theorem Tryz.info3s : (Tryz.prog.info? 3).map (fun i => (i.zero, i.size, i.bytes)) = some (some (.int .i64 0), 1, 8) := by kernel_rfl
end Go.Proofs.YtpebfdplapeejaaGreatDoor
set_option maxRecDepth 100000
namespace Go.Proofs.YtpebfdplapeejaaGreatDoor
open Go.RowKit
open Pl

theorem sizes_decl {k m : Int} {s : ByteArray} {kk : List T} : (declP (.node k s m kk) 32).map numT = sizesP (.node k s m kk) := by
 unfold declP sizesP
 by_cases h0 : (trb (.node k s m kk)).1 = 0
 ·rw [if_pos h0, if_pos h0]
  cases hok : okP (.node k s m kk) with
  | false =>
   unfold trb at h0
   rw [hok] at h0
   simp at h0
  | true =>
   obtain ⟨hk40, _, hfm⟩ := ok_formed hok
   obtain rfl : k = 40 := hk40
   obtain ⟨rfl, rfl, D, B, rfl, _, hBk, _, _⟩ := prog_parts hfm
   rw [show kidsOf (.node 40 ⟨#[]⟩ 0 (D ++ [B])) = D ++ [B] from rfl, List.dropLast_concat, declD_snoc, if_neg (by rw [hBk]; decide), List.append_nil]
   rfl
 ·rw [if_neg h0, if_neg h0]
  rfl
set_option maxHeartbeats 6400000 in
theorem iSizesOf_any (k : Int) (s : ByteArray) (m : Int) (kk : List T) (a : Option Addr) (c : Nat) (w : World) (hs : s.size ≤ maxLen) (hn : kk.length ≤ maxLen) (hcap : kk.length ≤ c) (hc9 : c ≤ maxLen) (hk : Kids w 0 a kk) (htab : Lib.TabIs Tryz.prog w "internal/strconv.uint64pow10" .u64 Lib.pow10Tab)
  (hg : w.cell? ⟨0, 0, none⟩ = some (.iface 91 (.agg #[.pointer (some ⟨7, 52, none⟩)]))) : Calls Tryz.prog 10 #[.agg #[.int .i64 k, .string s, .int .i64 m, .slice a kk.length c]] w (IPost (sizesP (.node k s m kk)) w) := by
 obtain ⟨gg, hgn⟩ := Option.isSome_iff_exists.1 (show (Tryz.prog.globalNamed "internal/strconv.uint64pow10").isSome = true by kernel_rfl)
 have HD := mkHid (fun W (hW : Below w.heap.size w W) => decls_any k s m kk a c 32 W hs hn hcap hc9 (hk.below hW) (Joins.tab_stays hgn htab hW (Nat.le_refl _)) ((hW.cell (p := ⟨0, 0, none⟩) (World.block_lt_of_cell? w _ hg)).trans hg))
 have B0 := mkHid ((Below.refl w.heap.size w).alloc (Nat.le_refl _) (.cells #[.int .i64 k, .string s, .int .i64 m, .slice a kk.length c] 33))
 have htl : (declP (.node k s m kk) 32).length ≤ 1000 := by
  unfold declP
  split
  ·rename_i h0
   obtain ⟨_, _, _, D, B, e, hl, _⟩ := right_parts h0
   have := declD_le (kidsOf (.node k s m kk)) 32
   rw [show kidsOf (.node k s m kk) = kk from rfl, e, List.length_append, List.length_singleton] at this
   rw [show kidsOf (.node k s m kk) = kk from rfl, e]
   omega
  ·simp
 rw [← sizes_decl]
 obtain ⟨ts, hts⟩ : ∃ q, declP (.node k s m kk) 32 = q := ⟨_, rfl⟩
 rw [hts] at HD htl ⊢
 obtain ⟨i0, hi0, hz0⟩ := Option.map_eq_some_iff.1 Tryz.info3s
 simp only [Prod.mk.injEq] at hz0
 obtain ⟨hz1, hz2, hz3⟩ := hz0
 have HI := mkHid (show Tryz.prog.info? 3 = some i0 ∧ i0.zero = some (.int .i64 0) ∧ i0.size = 1 ∧ i0.bytes = 8 from ⟨hi0, hz1, hz2, hz3⟩)
 clear hs hn hcap hc9 hk htab hg hgn hts hi0 hz1 hz2 hz3
 go_enter Tryz.func10, Tryz.ntmps10
 go_upto_region 3 with (go_at_call 22; refine (HD.out _ B0.out).mono ?_; rintro e w1 ⟨da, dc, cs, rfl, hdo, hrw, hb1⟩)
 have B1 := mkHid (below_step B0.out hb1)
 have HDO := mkHid hdo
 have HRW := mkHid hrw
 have HN1 := mkHid (Below.refl w1.heap.size w1)
 clear hb1 hdo hrw HD
 go_loopg [3, 9] ts.length (fun g s3 s9 wr => ∃ (i : Nat) (ra : Option Addr) (rc : Nat), i + g = ts.length ∧ s9 = .int .i64 i ∧ s3 = .slice ra (ts.take i).length rc ∧ OwnI wr w1.heap.size (.slice ra (ts.take i).length rc) ((ts.take i).map numT) ∧ Below w1.heap.size w1 wr)
 case atStart => exact ⟨0, none, 0, by omega, rfl, rfl, OwnI.nil _ _, HN1.out⟩
 case round =>
  obtain ⟨i, ra, rc, hig, rfl, rfl, hos, hbel⟩ := hrel
  have HOS := mkHid hos
  have HBL := mkHid hbel
  clear hos HN1
  by_cases hil : i < ts.length
  ·obtain ⟨x, hx⟩ : ∃ x, ts[i]? = some x := ⟨_, List.getElem?_eq_getElem hil⟩
   have HNS : Hid (ts.take (i + 1) = ts.take i ++ [x]) := mkHid (take_snoc hx)
   obtain ⟨gd, rfl, _, _, hrd⟩ := raw_row HDO.out (by omega)
   obtain ⟨e0, e1, e2, xa, xn, xc, e3⟩ := HRW.out.2 i x hx
   have c0 := hrd _ hbel _ _ e0
   have c1 := hrd _ hbel _ _ e1
   have c2 := hrd _ hbel _ _ e2
   have c3 := hrd _ hbel _ _ e3
   obtain ⟨xk, xs, xm, xkk⟩ := x
   have j0 : (0 : Int) ≤ (i : Int) := by omega
   have j1 : (i : Int) < (ts.length : Int) := by omega
   obtain ⟨g1, rfl⟩ : ∃ q, gk = q + 1 := ⟨gk - 1, by omega⟩
   have w3 : IntKind.i64.wrap ((i : Int) + 1) = (i : Int) + 1 := IntWalk.i64_in _ (by omega)
   have hz1 := hbel.size
   have hnl : (ts.take i).length ≤ 1000 := by rw [List.length_take]; omega
   have hA : Below wr.heap.size wr (wr.alloc (.cells #[.int .i64 xk, .string xs, .int .i64 xm, .slice xa xn xc] 33)) := (Below.refl _ _).alloc (Nat.le_refl _) _
   have F1 := Four.new wr xk xs xm xa xn xc 33
   obtain ⟨Y, hY⟩ : ∃ q, wr.heap.size = q := ⟨_, rfl⟩
   obtain ⟨w5, hw5⟩ : ∃ q, wr.alloc (.cells #[.int .i64 xk, .string xs, .int .i64 xm, .slice xa xn xc] 33) = q := ⟨_, rfl⟩
   rw [hw5] at hA F1
   rw [hY] at F1
   obtain ⟨q0, q1, q2, q3⟩ := F1
   have HA := mkHid hA
   obtain ⟨NL, hNL⟩ : ∃ q, (ts.take i).map numT = q := ⟨_, rfl⟩
   have hll : (ts.take i).length = NL.length := by rw [← hNL, List.length_map]
   have HN2 : Hid ((ts.take (i + 1)).map numT = NL ++ [xm]) := mkHid (by rw [HNS.out, List.map_append, hNL]; rfl)
   have HN3 : Hid ((ts.take (i + 1)).length = NL.length + 1) := mkHid (by rw [HNS.out, List.length_append, hll]; rfl)
   rw [hNL, hll] at HOS
   rw [hll] at hnl ⊢
   have HLL := mkHid hll
   simp only [kindT, nameT, numT] at c0 c1 c2
   clear hx hbel hA hNL hrd e0 e1 e2 e3 hll
   have O5 := mkHid (HOS.out.below HA.out)
   have OW := mkHid (World.ownsRow.alloc O5.out (.cells #[.int .i64 xm] 3))
   have hz15 := (below_step HBL.out HA.out).size
   go_wp2_with (first | (at_builtin; refine wpList_append_lies _ rfl _ _ _ rfl w1.heap.size 3 i0 _ 1 8 Tryz.underlying39 HI.out.1 HI.out.2.1 HI.out.2.2.1 HI.out.2.2.2 rfl (by decide) _ _ _ rfl OW.out ⟨w5.heap.size, 0, none⟩ 1 1 [.int .i64 xm] rfl rfl (World.news_of_block (heap_alloc_new w5 _)) (fun u hu => by simp at hu; rcases hu with rfl; rfl) (by decide) (by unfold maxLen; omega) (by omega) (by simp; omega) (w5.heap.size + 1) (by simp) ?_; intro g cq w4 hown hgrow hat hlt4) | go_in)
   clear hw5 hY
   have HOW : Hid (OwnI w4 w1.heap.size (.slice (some ⟨g, 0, none⟩) (NL ++ [xm]).length cq) (NL ++ [xm])) := mkHid (by
    unfold OwnI
    rw [List.length_append, ← ints_snoc]
    exact hown)
   have HB4 : Hid (Below w1.heap.size w1 w4) := mkHid (by
    have b5 := below_step HBL.out HA.out
    exact (b5.alloc b5.size (.cells #[.int .i64 xm] 3)).grown hgrow (Nat.le_trans b5.size (by simp)) (fun q e => (World.ownsRow.lt HOS.out q e).1))
   clear hown hgrow hat OW
   go_wp2
   go_roundg g1
   case rel => exact ⟨i + 1, some ⟨g, 0, none⟩, cq, by omega, by simp, by rw [HN3.out], by rw [HN2.out, HN3.out]; have := HOW.out; rwa [List.length_append] at this, HB4.out⟩
   case measure => omega
  ·have hik : i = ts.length := by omega
   subst hik
   have j1 : ¬ (ts.length : Int) < (ts.length : Int) := by omega
   rw [List.take_length] at HOS ⊢
   go_wp2
   go_ret
   refine ⟨ra, rc, by rw [List.length_map]; rfl, ?_, below_step B1.out HBL.out⟩
   rw [List.length_map]
   exact HOS.out.mono B1.out.size
end Go.Proofs.YtpebfdplapeejaaGreatDoor
namespace Go.Proofs.YtpebfdplapeejaaGreatDoor
open Go.RowKit
open Pl

theorem parse_skips {n : Nat} (hn : n ≤ 600) : (parseI ⟨(txS n).toArray⟩).2.1 = if n ≤ 497 then 0 else 5 := by
  obtain ⟨h0, hA⟩ := words_skips hn
  have hl := hA.len
  obtain ⟨F, hF⟩ : ∃ F, fuelI (wordsI ⟨(txS n).toArray⟩).1 = F + 2 := ⟨fuelI (wordsI ⟨(txS n).toArray⟩).1 - 2, by unfold fuelI; omega⟩
  have hP := skips_prog hA (F + 1) F (by unfold fuelI at hF; omega)
  obtain ⟨s1, s2⟩ := progS_size n
  unfold parseI
  rw [if_neg (by rw [h0]; decide), hF, hP]
  simp only
  by_cases h : n ≤ 497
  · rw [if_pos h, if_pos (by omega)]
  · rw [if_neg h, if_neg (by omega)]
def txM (n : Nat) : List UInt8 := [105, 32, 61, 32] ++ rep n [45]
set_option maxRecDepth 100000 in
theorem parse_neg20 : (parseI ⟨(txM 20 ++ [49, 59]).toArray⟩).2.1 = 0 := by kernel_rfl
set_option maxRecDepth 100000 in
theorem parse_neg21 : (parseI ⟨(txM 21 ++ [49, 59]).toArray⟩).2.1 = 5 := by kernel_rfl
def txA (d : UInt8) : ByteArray := ⟨#[97, 114, 114, 97, 121, 32, 97, 91, 54, d, 93, 59, 32, 115, 107, 105, 112, 59]⟩
def arrT (m : Int) : T := .node 40 ⟨#[]⟩ 0 [.node 32 ⟨#[97]⟩ m [], .node 30 ⟨#[]⟩ 0 [.node 28 ⟨#[]⟩ 0 []]]
theorem parse_arr60 : parseI (txA 48) = (arrT 60, 0, 0) := by kernel_rfl
theorem parse_arr61 : parseI (txA 49) = (arrT 61, 0, 0) := by kernel_rfl
theorem dec_60 : dec 60 = ⟨#[54, 48]⟩ := by rw [dec_more (by decide), dec_small (by decide)]; rfl
theorem dec_61 : dec 61 = ⟨#[54, 49]⟩ := by rw [dec_more (by decide), dec_small (by decide)]; rfl
theorem trb_60 : (trb (arrT 60)).1 = 0 := by kernel_rfl
theorem trb_61 : (trb (arrT 61)).1 = 3 := by kernel_rfl
theorem sizes_60 : (sizesP (arrT 60)).length = 1 := by unfold sizesP; rw [if_pos trb_60]; rfl
theorem sizes_61 : (sizesP (arrT 61)).length = 0 := by unfold sizesP; rw [if_neg (by rw [trb_61]; decide)]; rfl
end Go.Proofs.YtpebfdplapeejaaGreatDoor
