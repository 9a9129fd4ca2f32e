/-
  WHAT A PART OF THE SPECIFICATION'S READER ANSWERS; CONTRACTS of l02One and l02Two.
  CONTRACT of the specification's reader's one.
  PLAIN FACTS: the specification's reader against the plain reading, at sums and products: what a loop holds on to.
-/
import Derived.Test.YtedfnadgmhjojaaGreatDoorMSd
import Derived.Test.YtedfnadgmhjojaaGreatDoorMSize
import Derived.Test.YtedfnadgmhjojaaGreatDoorMSRl
import Derived.Test.YtedfnadgmhjojaaGreatDoorMRpars
namespace Go.Proofs.YtedfnadgmhjojaaGreatDoor
open Go.RowKit
open Pl

def SPost (rb : Nat) (a : Option Addr) (cap : Nat) (ws : List W3) (w : World) (r : Res) (st : St2) (e : Ending) (w' : World) : Prop :=
 ∃ (x : A) (st' : St2), e = .returned x.val ∧ Sits w' x ∧ New w.heap.size x ∧ Sd w' rb a cap ws st' ∧ Step rb w w' ∧ SR r st x.erase st'
section
variable {rb : Nat} {a : Option Addr} {cap : Nat} {ws : List W3}
theorem put4_sd {w : World} {st : St2} (h : Sd w rb a cap ws st) {p : Nat} (hp : rb < p) (v0 v1 v2 v3 : Value) : Sd (put4 w p v0 v1 v2 v3) rb a cap ws st :=
 (((h.setCell (p := ⟨p, 0, none⟩) hp _).setCell (p := ⟨p, 1, none⟩) hp _).setCell (p := ⟨p, 2, none⟩) hp _).setCell (p := ⟨p, 3, none⟩) hp _
theorem sp_tree {w w2 : World} {n : Nat} {r : Res} {st st' : St2} (x : A) (v0 v1 v2 v3 : Value) (hd : Sd w2 rb a cap ws st') (hrb : rb < w.heap.size) (hst : Step rb w w2) (hx : Sits w2 x) (hn : New n x) (hlt : w.heap.size < n) (hr : SR r st x.erase st') :
    SPost rb a cap ws w r st (.returned x.val) (put4 w2 w.heap.size v0 v1 v2 v3) :=
 ⟨x, st', rfl, Sits.stay x (fun q hq => put4_other _ _ _ _ (by have := hn.2 q hq; omega)) hx, hn.mono (by omega), put4_sd hd hrb _ _ _ _, put4_step hst (Nat.le_refl _) _ _ _ _, hr⟩
theorem sp_leaf {w w2 : World} {r : Res} {st st' : St2} (k m : Int) (s : ByteArray) (hd : Sd w2 rb a cap ws st') (hrb : rb < w.heap.size) (hst : Step rb w w2) (hs : s.size ≤ maxLen) (hr : SR r st (.node k s m []) st') :
    SPost rb a cap ws w r st (.returned (A.node k s m none 0 []).val) (put4 w2 w.heap.size (.int .i64 k) (.string s) (.int .i64 m) (.slice none 0 0)) :=
 ⟨_, st', rfl, Sits.leaf _ _ _ hs, New.leaf _ _ _ _ _ _, put4_sd hd hrb _ _ _ _, put4_step hst (Nat.le_refl _) _ _ _ _, by rw [erase0]; exact hr⟩
theorem made {w w' : World} {n b c : Nat} {xs : List A} {k m : Int} {s : ByteArray} (hs : SitsL w xs) (hb : Below w.heap.size w w') (hB : w'.heap[b]? = some (.cells (cellsL xs).toArray 38 (0, 0))) (hge : w.heap.size ≤ b) (hn : NewL n xs) (hle : n ≤ w.heap.size)
    (hz : s.size ≤ maxLen) (hl : xs.length ≤ maxLen) : Sits w' (.node k s m (some ⟨b, 0, none⟩) c xs) ∧ New n (.node k s m (some ⟨b, 0, none⟩) c xs) := by
 have hlt := SitsL.lt hs
 refine ⟨Sits.node hz hl (hs.stay fun q hq => hb.block q (hlt q hq)) hB (fun i v hv => by simpa using hv), New.node hn (by omega) (fun q => ?_)⟩
 have := hlt _ q
 omega
end

theorem third_new (w : World) (o1 o2 : Obj) (cs : Array Value) (e : TypeId) : (((w.alloc o1).alloc o2).alloc (.cells cs e)).heap[w.heap.size + 1 + 1]? = some (.cells cs e (0, 0)) := by
 have h := heap_alloc_new ((w.alloc o1).alloc o2) (.cells cs e)
 rw [show ((w.alloc o1).alloc o2).heap.size = w.heap.size + 1 + 1 by simp] at h
 exact h
theorem fourth_new (w : World) (o1 o2 o3 : Obj) (cs : Array Value) (e : TypeId) : ((((w.alloc o1).alloc o2).alloc o3).alloc (.cells cs e)).heap[w.heap.size + 1 + 1 + 1]? = some (.cells cs e (0, 0)) := by
 have h := heap_alloc_new (((w.alloc o1).alloc o2).alloc o3) (.cells cs e)
 rw [show (((w.alloc o1).alloc o2).alloc o3).heap.size = w.heap.size + 1 + 1 + 1 by simp] at h
 exact h
set_option maxRecDepth 100000 in
set_option maxHeartbeats 1000000 in
theorem one_new (k : Int) (x : A) (w : World) : Calls Tryz.prog 131 #[.int .i64 k, x.val] w fun e w' =>
    ∃ b, e = .returned (A.node k ⟨#[]⟩ 0 (some ⟨b, 0, none⟩) 1 [x]).val ∧ w'.heap[b]? = some (.cells (cellsL [x]).toArray 38 (0, 0)) ∧ w.heap.size ≤ b ∧ Below w.heap.size w w' := by
 obtain ⟨xk, xs, xm, xa, xc, xkk⟩ := x
 simp only [A.val]
 go_enter Tryz.func131, Tryz.ntmps131
 go_wp2
 exact bodyPost_ret (v := .agg #[.int .i64 k, .string ⟨#[]⟩, .int .i64 0, .slice (some ⟨w.heap.size + 1 + 1, 0, none⟩) 1 1]) (by simp [results, Tryz.results131, go_sem]) rfl
  ⟨w.heap.size + 1 + 1, rfl, third_new _ _ _ _ _, by omega, (((Below.refl _ _).alloc (Nat.le_refl _) _).alloc (by simp) _).alloc (by simp; omega) _⟩
set_option maxRecDepth 100000 in
set_option maxHeartbeats 1000000 in
theorem two_new (k : Int) (x y : A) (w : World) : Calls Tryz.prog 129 #[.int .i64 k, x.val, y.val] w fun e w' =>
    ∃ b, e = .returned (A.node k ⟨#[]⟩ 0 (some ⟨b, 0, none⟩) 2 [x, y]).val ∧ w'.heap[b]? = some (.cells (cellsL [x, y]).toArray 38 (0, 0)) ∧ w.heap.size ≤ b ∧ Below w.heap.size w w' := by
 obtain ⟨xk, xs, xm, xa, xc, xkk⟩ := x
 obtain ⟨yk, ys, ym, ya, yc, ykk⟩ := y
 simp only [A.val]
 go_enter Tryz.func129, Tryz.ntmps129
 go_wp2
 exact bodyPost_ret (v := .agg #[.int .i64 k, .string ⟨#[]⟩, .int .i64 0, .slice (some ⟨w.heap.size + 1 + 1 + 1, 0, none⟩) 2 2]) (by simp [results, Tryz.results129, go_sem]) rfl
  ⟨w.heap.size + 1 + 1 + 1, rfl, fourth_new _ _ _ _ _ _, by omega, ((((Below.refl _ _).alloc (Nat.le_refl _) _).alloc (by simp) _).alloc (by simp; omega) _).alloc (by simp; omega) _⟩
end Go.Proofs.YtedfnadgmhjojaaGreatDoor
namespace Go.Proofs.YtedfnadgmhjojaaGreatDoor
open Go.RowKit
open Pl

theorem sTake_yes (rb : Nat) (a : Option Addr) (cap : Nat) (ws : List W3) (st : St2) (s : ByteArray) (hs : s ≠ ⟨#[]⟩) (w : World) (h : Sd w rb a cap ws st) (ht : tk ws st s = true) :
    Calls Tryz.prog 86 #[.pointer (some ⟨rb, 0, none⟩), .string s] w fun e w' => e = .returned (.bool true) ∧ Sd w' rb a cap ws (st.1 + 1, false) ∧ Step rb w w' := by
 refine (sTake_any rb a cap ws st s hs w h).mono ?_
 rintro e w' ⟨rfl, r, s⟩
 unfold tkS at r
 rw [if_pos ht] at r
 exact ⟨by rw [ht], r, s⟩
theorem sTake_no (rb : Nat) (a : Option Addr) (cap : Nat) (ws : List W3) (st : St2) (s : ByteArray) (hs : s ≠ ⟨#[]⟩) (w : World) (h : Sd w rb a cap ws st) (ht : tk ws st s = false) :
    Calls Tryz.prog 86 #[.pointer (some ⟨rb, 0, none⟩), .string s] w fun e w' => e = .returned (.bool false) ∧ Sd w' rb a cap ws st ∧ Step rb w w' := by
 refine (sTake_any rb a cap ws st s hs w h).mono ?_
 rintro e w' ⟨rfl, r, s⟩
 unfold tkS at r
 rw [if_neg (by rw [ht]; decide)] at r
 exact ⟨by rw [ht], r, s⟩
theorem sKind_st (rb : Nat) (a : Option Addr) (cap : Nat) (ws : List W3) (st : St2) (w : World) (h : Sd w rb a cap ws st) :
    Calls Tryz.prog 89 #[.pointer (some ⟨rb, 0, none⟩)] w fun e w' => e = .returned (.int .i64 (kindW ws st.1)) ∧ Sd w' rb a cap ws st ∧ Step rb w w' := by
 refine (sKindW_any rb a cap ws st w h).mono ?_
 rintro e w' ⟨rfl, n, rfl⟩
 exact ⟨rfl, h.drewN n, (Step.refl rb w).drewN n⟩
theorem tk_good (ws : List W3) (i : Nat) (s : ByteArray) : tk ws (i, false) s = isW ws i s := by simp [tk]
def SOne (rb : Nat) (a : Option Addr) (cap : Nat) (ws : List W3) (f : Nat) : Prop := ∀ (st : St2) (w : World), 5 * (ws.length - st.1) + 1 ≤ f → Sd w rb a cap ws st → Calls Tryz.prog 136 #[.pointer (some ⟨rb, 0, none⟩)] w (SPost rb a cap ws w (mOne ws f st.1) st)
def STerm (rb : Nat) (a : Option Addr) (cap : Nat) (ws : List W3) (f : Nat) : Prop := ∀ (st : St2) (w : World), 5 * (ws.length - st.1) + 2 ≤ f → Sd w rb a cap ws st → Calls Tryz.prog 134 #[.pointer (some ⟨rb, 0, none⟩)] w (SPost rb a cap ws w (mTerm ws f st.1) st)
def SExpr (rb : Nat) (a : Option Addr) (cap : Nat) (ws : List W3) (f : Nat) : Prop := ∀ (st : St2) (w : World), 5 * (ws.length - st.1) + 3 ≤ f → Sd w rb a cap ws st → Calls Tryz.prog 130 #[.pointer (some ⟨rb, 0, none⟩)] w (SPost rb a cap ws w (mExpr ws f st.1) st)
theorem name_len {ws : List W3} (he : Env ws) (st : St2) : (nmT ws st).size ≤ maxLen := by
 unfold nmT
 split
 ·exact he.text _
 ·exact Nat.zero_le _
set_option maxRecDepth 100000 in
set_option maxHeartbeats 4000000 in
theorem sone_bad {rb : Nat} {a : Option Addr} {cap : Nat} {ws : List W3} {f : Nat} (i : Nat) (w : World) (h : Sd w rb a cap ws (i, true))  :
    Calls Tryz.prog 136 #[.pointer (some ⟨rb, 0, none⟩)] w (SPost rb a cap ws w (mOne ws (f + 1) i) (i, true)) := by
 obtain ⟨_, _, cb, _, _⟩ := h.cells
 simp only at cb
 have HA := mkHid h
 have hrb := h.lt
 clear h
 go_enter Tryz.func136, Tryz.ntmps136
 go_wp2
 obtain ⟨q0, q1, q2, q3⟩ := put4_cells0 (heap_alloc_new w (.cells #[.int .i64 0, .string ⟨#[]⟩, .int .i64 0, .slice none 0 0] 38)) (.int .i64 0) (.string ⟨#[]⟩) (.int .i64 0) (.slice none 0 0)
 first | exact bodyPost_ret (v := (A.node 0 ⟨#[]⟩ 0 none 0 []).val) (by simp [results, Tryz.results136, go_sem, A.val]) rfl (sp_leaf 0 0 ⟨#[]⟩ (HA.out.alloc _) hrb ((Step.refl rb w).alloc _) (by decide) (SR.mk_bad _ _ _)) | exact bodyPost_ret (v := (A.node 0 ⟨#[]⟩ 0 none 0 []).val) (by simp [results, Tryz.results136, go_sem, A.val]) rfl ⟨_, _, rfl, Sits.leaf _ _ _ (by decide), New.leaf _ _ _ _ _ _, HA.out.alloc _, (Step.refl rb w).alloc _, SR.mk_bad _ _ _⟩
set_option maxRecDepth 100000 in
set_option maxHeartbeats 4000000 in
theorem sone_neg {rb : Nat} {a : Option Addr} {cap : Nat} {ws : List W3} {f : Nat} (hO : SOne rb a cap ws f) (i : Nat) (w : World) (hf : 5 * (ws.length - i) + 1 ≤ f + 1) (h : Sd w rb a cap ws (i, false)) (h1 : isW ws i ⟨#[45]⟩ = true) :
    Calls Tryz.prog 136 #[.pointer (some ⟨rb, 0, none⟩)] w (SPost rb a cap ws w (mOne ws (f + 1) i) (i, false)) := by
 obtain ⟨_, _, cb, _, _⟩ := h.cells
 simp only at cb
 have hlt := isW_lt h1
 have HO := mkHid (fun w h => hO (i + 1, false) w (by simp only; omega) h)
 have H1 := mkHid h1
 have HA := mkHid h
 have hrb := h.lt
 have C0 := mkHid (fun w h => sTake_yes rb a cap ws (i, false) ⟨#[45]⟩ (by decide) w h (by rw [tk_good]; exact h1))
 clear h hO h1
 go_enter Tryz.func136, Tryz.ntmps136
 go_wp2_with fail
 refine (C0.out _ (HA.out.alloc _)).mono ?_
 rintro e w1 ⟨rfl, r, s⟩
 have R1 := mkHid r
 have S1 := mkHid (((Step.refl rb w).alloc _).trans s)
 have P1 := mkHid (s.at (heap_alloc_new w _) (by omega))
 clear r s
 go_wp2_with fail
 refine (HO.out _ R1.out).mono ?_
 rintro e w2 ⟨x, st', rfl, hsx, hnx, r, s, hr⟩
 have R2 := mkHid r
 have S2 := mkHid (S1.out.trans s)
 have P2 := mkHid (s.at P1.out (by omega))
 have HS := mkHid hsx
 have HN := mkHid hnx
 have HR := mkHid hr
 have Z := mkHid s.size
 clear r s hsx hnx hr
 obtain ⟨xk, xs, xm, xa, xc, xkk⟩ := x
 simp only [A.val]
 have z1 : w.heap.size < w1.heap.size := (Array.getElem?_eq_some_iff.1 P1.out).1
 go_wp2_with fail
 refine (one_new 5 (.node xk xs xm xa xc xkk) _).mono ?_
 rintro e w3 ⟨bb, rfl, hB, hge, hb⟩
 obtain ⟨t1, t2⟩ := made (k := 5) (m := 0) (s := ⟨#[]⟩) (c := 1) (sitsL_one HS.out) hb hB hge (NewL.one HN.out) Z.out (by decide) (by simp [maxLen])
 have P3 := mkHid ((hb.block _ (Array.getElem?_eq_some_iff.1 P2.out).1).trans P2.out)
 have R3 := mkHid (R2.out.keep (hb.mono R2.out.lt))
 have S3 := mkHid (S2.out.trans (Step.of_below hb))
 have HT1 := mkHid t1
 have HT2 := mkHid t2
 clear hB hge hb t1 t2
 simp only [A.val]
 obtain ⟨c0, c1, c2, c3, f0, f1, f2, f3⟩ := four_of P3.out
 go_wp2
 obtain ⟨q0, q1, q2, q3⟩ := put4_cells0 P3.out (.int .i64 5) (.string ⟨#[]⟩) (.int .i64 0) (.slice (some ⟨bb, 0, none⟩) 1 1)
 exact bodyPost_ret (v := (A.node 5 ⟨#[]⟩ 0 (some ⟨bb, 0, none⟩) 1 [.node xk xs xm xa xc xkk]).val) (by simp [results, Tryz.results136, go_sem, q0, q1, q2, q3, A.val]) rfl (sp_tree _ _ _ _ _ R3.out hrb S3.out HT1.out HT2.out z1 (by rw [erase1]; exact sr_neg H1.out HR.out))
set_option maxRecDepth 100000 in
set_option maxHeartbeats 4000000 in
theorem sone_par {rb : Nat} {a : Option Addr} {cap : Nat} {ws : List W3} {f : Nat} (hE : SExpr rb a cap ws f) (i : Nat) (w : World) (hf : 5 * (ws.length - i) + 1 ≤ f + 1) (h : Sd w rb a cap ws (i, false)) (n0 : isW ws i ⟨#[45]⟩ = false) (n2 : (kindW ws i == 2) = false) (h1 : isW ws i ⟨#[40]⟩ = true) :
    Calls Tryz.prog 136 #[.pointer (some ⟨rb, 0, none⟩)] w (SPost rb a cap ws w (mOne ws (f + 1) i) (i, false)) := by
 obtain ⟨_, _, cb, _, _⟩ := h.cells
 simp only at cb
 have hlt := isW_lt h1
 have HE := mkHid (fun w h => hE (i + 1, false) w (by simp only; omega) h)
 have H1 := mkHid h1
 have HA := mkHid h
 have hrb := h.lt
 have C0 := mkHid (fun w h => sTake_no rb a cap ws (i, false) ⟨#[45]⟩ (by decide) w h (by rw [tk_good]; exact n0))
 have C1 := mkHid (fun w h => sKind_st rb a cap ws (i, false) w h)
 have C2 := mkHid (fun w h => sTake_yes rb a cap ws (i, false) ⟨#[40]⟩ (by decide) w h (by rw [tk_good]; exact h1))
 have C3 := mkHid (fun st' w h => sNeed_any rb a cap ws st' ⟨#[41]⟩ (by decide) w h)
 clear h hE h1 n0
 go_enter Tryz.func136, Tryz.ntmps136
 go_wp2_with fail
 refine (C0.out _ (HA.out.alloc _)).mono ?_
 rintro e w1 ⟨rfl, r, s⟩
 have R1 := mkHid r
 have S1 := mkHid (((Step.refl rb w).alloc _).trans s)
 have P1 := mkHid (s.at (heap_alloc_new w _) (by omega))
 clear r s
 go_wp2_with fail
 refine (C1.out _ R1.out).mono ?_
 rintro e w2 ⟨rfl, r, s⟩
 have R2 := mkHid r
 have S2 := mkHid (S1.out.trans s)
 have P2 := mkHid (s.at P1.out (by omega))
 clear r s
 go_wp2_with fail
 refine (C2.out _ R2.out).mono ?_
 rintro e w3 ⟨rfl, r, s⟩
 have R3 := mkHid r
 have S3 := mkHid (S2.out.trans s)
 have P3 := mkHid (s.at P2.out (by omega))
 clear r s
 go_wp2_with fail
 refine (HE.out _ R3.out).mono ?_
 rintro e w4 ⟨x, st', rfl, hsx, hnx, r, s, hr⟩
 have R4 := mkHid r
 have S4 := mkHid (S3.out.trans s)
 have P4 := mkHid (s.at P3.out (by omega))
 clear r s
 have z3 : w.heap.size < w3.heap.size := (Array.getElem?_eq_some_iff.1 P3.out).1
 have z4 : w.heap.size < w4.heap.size := (Array.getElem?_eq_some_iff.1 P4.out).1
 have hsx' := ((Step.refl rb w4).alloc (.cells x.cells.toArray 38)).sits hsx (fun q hq => by have := hnx.2 q hq; have := R3.out.lt; omega)
 obtain ⟨xk, xs, xm, xa, xc, xkk⟩ := x
 simp only [A.cells] at hsx'
 have HS := mkHid hsx'
 have HN := mkHid hnx
 have HR := mkHid hr
 clear hsx' hsx hnx hr
 simp only [A.val]
 go_wp2_with fail
 refine (C3.out st' _ (R4.out.alloc _)).mono ?_
 rintro e w5 ⟨rfl, r, s⟩
 have P5 := mkHid (s.at ((Lib.alloc_old w4 _ _ z4).trans P4.out) (by omega))
 have L5 := s.at (heap_alloc_new w4 _) (by have := R4.out.lt; omega)
 have HS5 := mkHid (s.sits HS.out (fun q hq => by have := HN.out.2 q hq; have := R3.out.lt; omega))
 have S5 := mkHid ((S4.out.alloc _).trans s)
 have R5 := mkHid r
 clear r s
 obtain ⟨d0, d1, d2, d3, _⟩ := four_of L5
 obtain ⟨c0, c1, c2, c3, f0, f1, f2, f3⟩ := four_of P5.out
 clear L5
 go_wp2
 obtain ⟨q0, q1, q2, q3⟩ := put4_cells0 P5.out (.int .i64 xk) (.string xs) (.int .i64 xm) (.slice xa xkk.length xc)
 exact bodyPost_ret (v := (A.node xk xs xm xa xc xkk).val) (by simp [results, Tryz.results136, go_sem, q0, q1, q2, q3, A.val]) rfl (sp_tree _ _ _ _ _ R5.out hrb S5.out HS5.out HN.out z3 (sr_par H1.out HR.out))
set_option maxRecDepth 100000 in
set_option maxHeartbeats 4000000 in
theorem sone_len {rb : Nat} {a : Option Addr} {cap : Nat} {ws : List W3} {f : Nat} (he : Env ws) (i : Nat) (w : World) (h : Sd w rb a cap ws (i, false)) (n0 : isW ws i ⟨#[45]⟩ = false) (n1 : isW ws i ⟨#[40]⟩ = false) (n2 : (kindW ws i == 2) = false) (h1 : isW ws i ⟨#[108, 101, 110]⟩ = true) :
    Calls Tryz.prog 136 #[.pointer (some ⟨rb, 0, none⟩)] w (SPost rb a cap ws w (mOne ws (f + 1) i) (i, false)) := by
 obtain ⟨_, _, cb, _, _⟩ := h.cells
 simp only at cb
 have hnm := name_len he (nd ws (i + 1, false) ⟨#[40]⟩)
 have H1 := mkHid h1
 have HA := mkHid h
 have hrb := h.lt
 have C0 := mkHid (fun w h => sTake_no rb a cap ws (i, false) ⟨#[45]⟩ (by decide) w h (by rw [tk_good]; exact n0))
 have C1 := mkHid (fun w h => sKind_st rb a cap ws (i, false) w h)
 have C2 := mkHid (fun w h => sTake_no rb a cap ws (i, false) ⟨#[40]⟩ (by decide) w h (by rw [tk_good]; exact n1))
 have C3 := mkHid (fun w h => sTake_yes rb a cap ws (i, false) ⟨#[108, 101, 110]⟩ (by decide) w h (by rw [tk_good]; exact h1))
 have C4 := mkHid (fun w h => sNeed_any rb a cap ws (i + 1, false) ⟨#[40]⟩ (by decide) w h)
 have C5 := mkHid (fun w h => sNm_any rb a cap ws (nd ws (i + 1, false) ⟨#[40]⟩) w h)
 have C6 := mkHid (fun w h => sNeed_any rb a cap ws (nmS ws (nd ws (i + 1, false) ⟨#[40]⟩)) ⟨#[41]⟩ (by decide) w h)
 clear h h1 n0 n1 he
 go_enter Tryz.func136, Tryz.ntmps136
 go_wp2_with fail
 refine (C0.out _ (HA.out.alloc _)).mono ?_
 rintro e w1 ⟨rfl, r, s⟩
 have R1 := mkHid r
 have S1 := mkHid (((Step.refl rb w).alloc _).trans s)
 have P1 := mkHid (s.at (heap_alloc_new w _) (by omega))
 clear r s
 go_wp2_with fail
 refine (C1.out _ R1.out).mono ?_
 rintro e w2 ⟨rfl, r, s⟩
 have R2 := mkHid r
 have S2 := mkHid (S1.out.trans s)
 have P2 := mkHid (s.at P1.out (by omega))
 clear r s
 go_wp2_with fail
 refine (C2.out _ R2.out).mono ?_
 rintro e w3 ⟨rfl, r, s⟩
 have R3 := mkHid r
 have S3 := mkHid (S2.out.trans s)
 have P3 := mkHid (s.at P2.out (by omega))
 clear r s
 go_wp2_with fail
 refine (C3.out _ R3.out).mono ?_
 rintro e w4 ⟨rfl, r, s⟩
 have R4 := mkHid r
 have S4 := mkHid (S3.out.trans s)
 have P4 := mkHid (s.at P3.out (by omega))
 clear r s
 go_wp2_with fail
 refine (C4.out _ R4.out).mono ?_
 rintro e w5 ⟨rfl, r, s⟩
 have R5 := mkHid r
 have S5 := mkHid (S4.out.trans s)
 have P5 := mkHid (s.at P4.out (by omega))
 clear r s
 go_wp2_with fail
 refine (C5.out _ R5.out).mono ?_
 rintro e w6 ⟨rfl, r, s⟩
 have R6 := mkHid r
 have S6 := mkHid (S5.out.trans s)
 have P6 := mkHid (s.at P5.out (by omega))
 clear r s
 go_wp2_with fail
 refine (C6.out _ R6.out).mono ?_
 rintro e w7 ⟨rfl, r, s⟩
 have R7 := mkHid r
 have S7 := mkHid (S6.out.trans s)
 have P7 := mkHid (s.at P6.out (by omega))
 clear r s
 obtain ⟨c0, c1, c2, c3, f0, f1, f2, f3⟩ := four_of P7.out
 go_wp2
 obtain ⟨q0, q1, q2, q3⟩ := put4_cells0 P7.out (.int .i64 4) (.string (nmT ws (nd ws (i + 1, false) ⟨#[40]⟩))) (.int .i64 0) (.slice none 0 0)
 exact bodyPost_ret (v := (A.node 4 (nmT ws (nd ws (i + 1, false) ⟨#[40]⟩)) 0 none 0 []).val) (by simp [results, Tryz.results136, go_sem, q0, q1, q2, q3, A.val]) rfl (sp_leaf 4 0 (nmT ws (nd ws (i + 1, false) ⟨#[40]⟩)) R7.out hrb S7.out hnm (sr_len H1.out))
set_option maxRecDepth 100000 in
set_option maxHeartbeats 4000000 in
theorem sone_var {rb : Nat} {a : Option Addr} {cap : Nat} {ws : List W3} {f : Nat} (he : Env ws) (i : Nat) (w : World) (h : Sd w rb a cap ws (i, false)) (n0 : isW ws i ⟨#[45]⟩ = false) (n1 : isW ws i ⟨#[40]⟩ = false) (n2 : (kindW ws i == 2) = false) (n3 : isW ws i ⟨#[108, 101, 110]⟩ = false) (h2 : tk ws (nmS ws (i, false)) ⟨#[91]⟩ = false) :
    Calls Tryz.prog 136 #[.pointer (some ⟨rb, 0, none⟩)] w (SPost rb a cap ws w (mOne ws (f + 1) i) (i, false)) := by
 obtain ⟨_, _, cb, _, _⟩ := h.cells
 simp only at cb
 have hnm := name_len he (i, false)
 have HSR := mkHid (sr_var (f := f) n0 n1 n3 (by simpa using n2) h2)
 have HA := mkHid h
 have hrb := h.lt
 have C0 := mkHid (fun w h => sTake_no rb a cap ws (i, false) ⟨#[45]⟩ (by decide) w h (by rw [tk_good]; exact n0))
 have C1 := mkHid (fun w h => sKind_st rb a cap ws (i, false) w h)
 have C2 := mkHid (fun w h => sTake_no rb a cap ws (i, false) ⟨#[40]⟩ (by decide) w h (by rw [tk_good]; exact n1))
 have C3 := mkHid (fun w h => sTake_no rb a cap ws (i, false) ⟨#[108, 101, 110]⟩ (by decide) w h (by rw [tk_good]; exact n3))
 have C4 := mkHid (fun w h => sNm_any rb a cap ws (i, false) w h)
 have C5 := mkHid (fun w h => sTake_no rb a cap ws (nmS ws (i, false)) ⟨#[91]⟩ (by decide) w h h2)
 clear h n0 n1 n3 h2 he
 go_enter Tryz.func136, Tryz.ntmps136
 go_wp2_with fail
 refine (C0.out _ (HA.out.alloc _)).mono ?_
 rintro e w1 ⟨rfl, r, s⟩
 have R1 := mkHid r
 have S1 := mkHid (((Step.refl rb w).alloc _).trans s)
 have P1 := mkHid (s.at (heap_alloc_new w _) (by omega))
 clear r s
 go_wp2_with fail
 refine (C1.out _ R1.out).mono ?_
 rintro e w2 ⟨rfl, r, s⟩
 have R2 := mkHid r
 have S2 := mkHid (S1.out.trans s)
 have P2 := mkHid (s.at P1.out (by omega))
 clear r s
 go_wp2_with fail
 refine (C2.out _ R2.out).mono ?_
 rintro e w3 ⟨rfl, r, s⟩
 have R3 := mkHid r
 have S3 := mkHid (S2.out.trans s)
 have P3 := mkHid (s.at P2.out (by omega))
 clear r s
 go_wp2_with fail
 refine (C3.out _ R3.out).mono ?_
 rintro e w4 ⟨rfl, r, s⟩
 have R4 := mkHid r
 have S4 := mkHid (S3.out.trans s)
 have P4 := mkHid (s.at P3.out (by omega))
 clear r s
 go_wp2_with fail
 refine (C4.out _ R4.out).mono ?_
 rintro e w5 ⟨rfl, r, s⟩
 have R5 := mkHid r
 have S5 := mkHid (S4.out.trans s)
 have P5 := mkHid (s.at P4.out (by omega))
 clear r s
 go_wp2_with fail
 refine (C5.out _ R5.out).mono ?_
 rintro e w6 ⟨rfl, r, s⟩
 have R6 := mkHid r
 have S6 := mkHid (S5.out.trans s)
 have P6 := mkHid (s.at P5.out (by omega))
 clear r s
 obtain ⟨c0, c1, c2, c3, f0, f1, f2, f3⟩ := four_of P6.out
 go_wp2
 obtain ⟨q0, q1, q2, q3⟩ := put4_cells0 P6.out (.int .i64 2) (.string (nmT ws (i, false))) (.int .i64 0) (.slice none 0 0)
 exact bodyPost_ret (v := (A.node 2 (nmT ws (i, false)) 0 none 0 []).val) (by simp [results, Tryz.results136, go_sem, q0, q1, q2, q3, A.val]) rfl (sp_leaf 2 0 (nmT ws (i, false)) R6.out hrb S6.out hnm HSR.out)
end Go.Proofs.YtedfnadgmhjojaaGreatDoor
namespace Go.Proofs.YtedfnadgmhjojaaGreatDoor
open Go.RowKit
open Pl

/-- The loop has read x and stands at st'; all together R is read from st on. -/
def TInv (ws : List W3) (f : Nat) (m : Nat → T → Nat → Res) (R : Res) (st : St2) (x : T) (st' : St2) : Prop :=
 (st.2 = true ∧ st' = st) ∨ (st.2 = false ∧ ((st'.2 = true ∧ R = .no st'.1) ∨ (st'.2 = false ∧ ∃ g, g ≤ f ∧ 5 * (ws.length - st'.1) + 1 ≤ g ∧ m g x st'.1 = R)))
theorem tinv_end {ws : List W3} {f : Nat} {m : Nat → T → Nat → Res} {R : Res} {st : St2} {x : T} {st' : St2} (h : TInv ws f m R st x st') (hm : st'.2 = false → ∀ g, 1 ≤ g → m g x st'.1 = .ok x st'.1) : SR R st x st' := by
 obtain ⟨i, b⟩ := st
 obtain ⟨j, c⟩ := st'
 rcases h with ⟨h1, h2⟩ | ⟨h1, ⟨h2, h3⟩ | ⟨h2, g, _, h3, h4⟩⟩
 ·simp only at h1
  subst h1
  rw [h2]; exact SR.mk_bad _ _ _
 ·simp only at h1 h2 h3
  subst h1 h2
  rw [h3]; exact SR.mk_no _ _ _
 ·simp only at h1 h2 h3 h4
  subst h1 h2
  rw [← h4, hm rfl g (by omega)]; exact SR.mk_ok _ _ _
theorem tinv_first {ws : List W3} {f i : Nat} {b : Bool} {m : Nat → T → Nat → Res} {r R : Res} {x : T} {st' : St2} (hR : R = r.then_ fun x j => m f x j) (h : SR r (i, b) x st') (ha : ∀ t j, r = .ok t j → i < j ∧ j ≤ ws.length) (hf : 5 * (ws.length - i) + 1 ≤ f) : TInv ws f m R (i, b) x st' := by
 cases b with
 | true => exact .inl ⟨rfl, h.bad⟩
 | false =>
   refine .inr ⟨rfl, ?_⟩
   cases r with
   | no p => rw [h.no]; exact .inl ⟨rfl, hR⟩
   | ok t j =>
     rw [h.ok.1, h.ok.2]
     have := ha t j rfl
     exact .inr ⟨rfl, f, Nat.le_refl _, by simp only; omega, hR.symm⟩
end Go.Proofs.YtedfnadgmhjojaaGreatDoor
