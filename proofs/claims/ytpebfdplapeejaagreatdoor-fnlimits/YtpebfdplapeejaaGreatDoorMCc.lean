/-
  PURE: a program without for loops; names and what is wrong with them.
  CONTRACTS of the program's declKind, checkCounts.
  ROWS OF TREES OF ONE'S OWN; CONTRACTS of the program's varNamed, setTo.
-/
import Derived.Test.YtpebfdplapeejaaGreatDoorMBase
import Derived.Deep.LoopGhost
import Derived.Deep.RegionLaw
import Derived.Deep.AppendLies
namespace Go.Proofs.YtpebfdplapeejaaGreatDoor
open Go.RowKit
open Pl

/-- The two statements that stand for a for. -/
def varT (s : ByteArray) : T := .node 2 s 0 []
def setT (s : ByteArray) (e : T) : T := .node 21 s 0 [e]
def nextT (s : ByteArray) : T := setT s (.node 6 ⟨#[]⟩ 0 [varT s, .node 1 ⟨#[]⟩ 1 []])
def addK (t x : T) : T := match t with | .node k s m kk => .node k s m (kk ++ [x])
def loopT (s : ByteArray) (b c : T) : T := .node 25 ⟨#[]⟩ 0 [.node 11 ⟨#[]⟩ 0 [varT s, b], addK c (nextT s)]
def forT (s : ByteArray) (l : List T) : List T := match l with | [a, b, c] => [setT s a, loopT s b c] | _ => []
mutual
/-- A tree without for loops below it. -/
def plnT : T → T
  | .node k s m kk => .node k s m (plnL kk)
def plnK : T → List T
  | .node k s m kk => if k = 26 then forT s (plnE kk) else [.node k s m (plnL kk)]
def plnL : List T → List T
  | [] => []
  | t :: r => plnK t ++ plnL r
def plnE : List T → List T
  | [] => []
  | t :: r => plnT t :: plnE r
end
theorem plnK_other {t : T} (h : kindT t ≠ 26) : plnK t = [plnT t] := by
  obtain ⟨k, s, m, kk⟩ := t
  simp only [plnK, plnT]
  exact if_neg h
theorem plnK_for {s : ByteArray} {m : Int} {a b c : T} : plnK (.node 26 s m [a, b, c]) = [setT s (plnT a), loopT s (plnT b) (plnT c)] := by simp [plnK, plnE, forT]
theorem plnL_append (p q : List T) : plnL (p ++ q) = plnL p ++ plnL q := by
  induction p with
  | nil => rfl
  | cons x r ih => simp only [List.cons_append, plnL, ih, List.append_assoc]
theorem cnts_append (p q : List T) : cnts (p ++ q) = cnts p + cnts q := by
  induction p with
  | nil => simp [cnts]
  | cons x r ih => simp only [List.cons_append, cnts, ih]; omega
theorem cnt_one (t : T) : 1 ≤ cnt t := by cases t; simp only [cnt]; omega
theorem len_cnts (kk : List T) : kk.length ≤ cnts kk := by
  induction kk with
  | nil => simp [cnts]
  | cons x r ih => have := cnt_one x; simp only [cnts, List.length_cons]; omega
theorem forT_cnt (s : ByteArray) (l : List T) : cnts (forT s l) ≤ 8 + cnts l := by
  unfold forT
  split
  · rename_i a b c
    obtain ⟨k, s', m, kk⟩ := c
    simp only [cnts, cnt, setT, loopT, addK, nextT, varT, cnts_append]
    omega
  · simp [cnts]
theorem plnL_cnt {kk : List T} (ih : ∀ t ∈ kk, cnts (plnK t) ≤ 8 * cnt t) : cnts (plnL kk) ≤ 8 * cnts kk := by
  induction kk with
  | nil => simp [plnL, cnts]
  | cons x r ih2 =>
    have := ih x (by simp)
    have := ih2 (fun t ht => ih t (by simp [ht]))
    simp only [plnL, cnts, cnts_append]; omega
theorem plnE_cnt {kk : List T} (ih : ∀ t ∈ kk, cnt (plnT t) ≤ 8 * cnt t) : cnts (plnE kk) ≤ 8 * cnts kk := by
  induction kk with
  | nil => simp [plnE, cnts]
  | cons x r ih2 =>
    have := ih x (by simp)
    have := ih2 (fun t ht => ih t (by simp [ht]))
    simp only [plnE, cnts]; omega
theorem pln_cnt (t : T) : cnt (plnT t) ≤ 8 * cnt t ∧ cnts (plnK t) ≤ 8 * cnt t := by
  refine T.induct (P := fun t => cnt (plnT t) ≤ 8 * cnt t ∧ cnts (plnK t) ≤ 8 * cnt t) ?_ t
  intro k s m kk ih
  have h1 := plnL_cnt fun t ht => (ih t ht).2
  have h2 := plnE_cnt fun t ht => (ih t ht).1
  refine ⟨by simp only [plnT, cnt]; omega, ?_⟩
  simp only [plnK]
  split
  · have := forT_cnt s (plnE kk); simp only [cnt]; omega
  · simp only [cnts, cnt]; omega
theorem formed_for {s : ByteArray} {m : Int} {kk : List T} (h : formedT (.node 26 s m kk) = true) : ∃ a b c, kk = [a, b, c] ∧ Good1 a ∧ Good1 b ∧ kindT c = 30 ∧ formedT c = true := by
  obtain ⟨hh, _, hk⟩ := formed_parts h
  have hl : kk.length = 3 := by
    unfold formHead at hh
    rw [show shapeI 26 = (3, true, true) from rfl] at hh
    simp at hh
    omega
  match kk, hl with
  | [a, b, c], _ =>
    have h0 := hk 0 a rfl
    have h1 := hk 1 b rfl
    have h2 := hk 2 c rfl
    simp [kidI] at h0 h1 h2
    exact ⟨a, b, c, rfl, ⟨h0.2, betw_iff h0.1⟩, ⟨h1.2, betw_iff h1.1⟩, h2.1, h2.2⟩
theorem formed_kid {k m : Int} {s : ByteArray} {kk : List T} (h : formedT (.node k s m kk) = true) {t : T} (ht : t ∈ kk) : formedT t = true := by
  obtain ⟨j, hj⟩ := List.getElem?_of_mem ht
  have := (formed_parts h).2.2 j t hj
  simp only [Bool.and_eq_true] at this
  exact this.2

/-! names -/
def nameT : T → ByteArray | .node _ s _ _ => s
def numT : T → Int | .node _ _ m _ => m
def declK (k : Int) : Int := if k = 2 ∨ k = 21 ∨ k = 23 ∨ k = 26 then 31 else if k = 3 ∨ k = 4 ∨ k = 22 then 32 else 0
/-- What is declared under a name. -/
def lookD : List T → ByteArray → Int
  | [], _ => 0
  | t :: r, s => if nameT t = s then kindT t else lookD r s
def trbl (f : ByteArray → Int) (k : Int) (s : ByteArray) : Int := if declK k = f s ∨ declK k = 0 then 0 else if f s = 0 then 7 else 8
mutual
/-- The first node of which something is so. -/
def wrg (p : Int → ByteArray → Bool) : T → Option ByteArray
  | .node k s _ kk => if p k s = true then some s else wrgL p kk
def wrgL (p : Int → ByteArray → Bool) : List T → Option ByteArray
  | [] => none
  | t :: r => (wrg p t).or (wrgL p r)
end
def Dk (D : List T) : Prop := ∀ t ∈ D, kindT t = 31 ∨ kindT t = 32
theorem look_zero {D : List T} (h : Dk D) (s : ByteArray) : lookD D s = 0 ↔ ∀ t ∈ D, nameT t ≠ s := by
  induction D with
  | nil => simp [lookD]
  | cons x r ih =>
    have hx := h x (by simp)
    have ih := ih (fun t ht => h t (by simp [ht]))
    simp only [lookD, List.mem_cons, forall_eq_or_imp]
    split
    · rename_i e; simp [e]; omega
    · rename_i e; simp [e, ih]
theorem look_snoc {D : List T} (h : Dk D) (t : T) (hz : lookD D (nameT t) = 0) (s : ByteArray) : lookD (D ++ [t]) s = if nameT t = s then kindT t else lookD D s := by
  induction D with
  | nil => simp [lookD]
  | cons x r ih =>
    have hx := h x (by simp)
    simp only [lookD] at hz
    split at hz
    · omega
    · rename_i e
      have ih := ih (fun t ht => h t (by simp [ht])) hz
      simp only [List.cons_append, lookD, ih]
      by_cases e1 : nameT x = s
      · have : ¬ nameT t = s := fun e2 => e (e1.trans e2.symm)
        simp [e1, this]
      · simp [e1]
/-- The first name that is declared twice. -/
def twiceD : List T → List T → Option ByteArray
  | _, [] => none
  | D, t :: r => if lookD D (nameT t) = 0 then twiceD (D ++ [t]) r else some (nameT t)
def namesD (D : List T) (k : Int) : List ByteArray := (D.filter fun t => decide (kindT t = k)).map nameT
def ApartN : List T → Prop
  | [] => True
  | t :: r => (∀ x ∈ r, nameT x ≠ nameT t) ∧ ApartN r
theorem apart_snoc {D : List T} {t : T} (h : ApartN D) (hn : ∀ x ∈ D, nameT x ≠ nameT t) : ApartN (D ++ [t]) := by
  induction D with
  | nil => simp [ApartN]
  | cons x r ih =>
    simp only [List.cons_append, ApartN] at h ⊢
    refine ⟨fun y hy => ?_, ih h.2 (fun y hy => hn y (by simp [hy]))⟩
    rcases List.mem_append.1 hy with hy | hy
    · exact h.1 y hy
    · rw [List.mem_singleton.1 hy]; exact fun e => hn x (by simp) e.symm
theorem twice_apart {r D : List T} (hk : Dk (D ++ r)) (h : ApartN D) : twiceD D r = none → ApartN (D ++ r) := by
  induction r generalizing D with
  | nil => intro _; simpa using h
  | cons t r ih =>
    intro hz
    simp only [twiceD] at hz
    split at hz
    · rename_i e
      have := ih (D := D ++ [t]) (by simpa using hk) (apart_snoc h ((look_zero (fun x hx => hk x (by simp [hx])) _).1 e)) hz
      simpa using this
    · cases hz
/-! what the two sides look for -/
def badP (f : ByteArray → Int) (c : Int) (k : Int) (s : ByteArray) : Bool := decide (trbl f k s = c)
def cntK (D : List T) (k : Int) : Nat := (namesD D k).length
def manyD (D : List T) : Bool := decide (8 < cntK D 31) || decide (4 < cntK D 32) || D.any fun t => decide (60 < numT t)
theorem prog_parts {s : ByteArray} {m : Int} {kk : List T} (h : formedT (.node 40 s m kk) = true) : s = ⟨#[]⟩ ∧ m = 0 ∧ ∃ (D : List T) (B : T), kk = D ++ [B] ∧ Dk D ∧ kindT B = 30 ∧ formedT B = true ∧ (∀ t ∈ D, formedT t = true) := by
  obtain ⟨hh, hn, hk⟩ := formed_parts h
  unfold formHead at hh
  rw [show shapeI 40 = (-1, false, true) from rfl] at hh
  simp at hh
  have hs : s = ⟨#[]⟩ := hh.1
  have hne : kk ≠ [] := hh.2
  refine ⟨hs, by simpa [numOk] using hn, kk.dropLast, kk.getLast hne, (List.dropLast_concat_getLast hne).symm, ?_, ?_, ?_, ?_⟩
  · intro t ht
    obtain ⟨j, hj⟩ := List.getElem?_of_mem ht
    have hl : j < kk.dropLast.length := (List.getElem?_eq_some_iff.1 hj).1
    rw [List.length_dropLast] at hl
    have hj2 : kk[j]? = some t := by rw [List.getElem?_dropLast, if_pos (by omega)] at hj; exact hj
    have := hk j t hj2
    simp only [Bool.and_eq_true] at this
    have h1 := this.1
    unfold kidI at h1
    simp at h1
    rw [if_neg (by omega)] at h1
    simpa using h1
  · have := hk (kk.length - 1) (kk.getLast hne) (by rw [List.getLast_eq_getElem]; exact List.getElem?_eq_getElem _)
    simp only [Bool.and_eq_true] at this
    have h1 := this.1
    have : 0 < kk.length := List.length_pos_iff.2 hne
    unfold kidI at h1
    simp at h1
    rw [if_pos (by omega)] at h1
    simpa using h1
  · exact formed_kid h (List.getLast_mem hne)
  · exact fun t ht => formed_kid h ((List.dropLast_sublist kk).mem ht)

theorem take_snoc {α : Type} {l : List α} {i : Nat} {t : α} (h : l[i]? = some t) : l.take (i + 1) = l.take i ++ [t] := by
  rw [List.take_add_one, h]; rfl
theorem drop_cons {α : Type} {l : List α} {i : Nat} {t : α} (h : l[i]? = some t) : l.drop i = t :: l.drop (i + 1) := by
  obtain ⟨hi, e⟩ := List.getElem?_eq_some_iff.1 h
  rw [List.drop_eq_getElem_cons hi, e]
theorem twice_go {D : List T} {i : Nat} {t : T} (h : D[i]? = some t) (hz : lookD (D.take i) (nameT t) = 0) : twiceD (D.take i) (D.drop i) = twiceD (D.take (i + 1)) (D.drop (i + 1)) := by
  rw [drop_cons h, take_snoc h]; simp only [twiceD]; rw [if_pos hz]
theorem twice_hit {D : List T} {i : Nat} {t : T} (h : D[i]? = some t) (hz : lookD (D.take i) (nameT t) ≠ 0) : twiceD (D.take i) (D.drop i) = some (nameT t) := by
  rw [drop_cons h]; simp only [twiceD]; rw [if_neg hz]
theorem twice_end (D : List T) : twiceD (D.take D.length) (D.drop D.length) = none := by rw [List.drop_length]; rfl
theorem dk_take {D : List T} (h : Dk D) (i : Nat) : Dk (D.take i) := fun t ht => h t (List.mem_of_mem_take ht)
theorem namesD_snoc (D : List T) (t : T) (k : Int) : namesD (D ++ [t]) k = namesD D k ++ (if kindT t = k then [nameT t] else []) := by
  unfold namesD
  rw [List.filter_append, List.map_append]
  by_cases h : kindT t = k <;> simp [h]
theorem cntK_snoc (D : List T) (t : T) (k : Int) : cntK (D ++ [t]) k = cntK D k + (if kindT t = k then 1 else 0) := by
  unfold cntK; rw [namesD_snoc, List.length_append]; split <;> simp
theorem cntK_le (D : List T) (k : Int) : cntK D k ≤ D.length := by
  unfold cntK namesD; rw [List.length_map]; exact List.length_filter_le _ _
/-- The greatest size. -/
def mxS (z : Int) (t : T) : Int := if kindT t = 32 then max z (numT t) else z
def mxD (D : List T) : Int := D.foldl mxS 0
theorem mxD_snoc (D : List T) (t : T) : mxD (D ++ [t]) = if kindT t = 32 then max (mxD D) (numT t) else mxD D := by unfold mxD; rw [List.foldl_append]; rfl
theorem mono_mx (r : List T) (z : Int) : z ≤ r.foldl mxS z := by
  induction r generalizing z with
  | nil => exact Int.le_refl _
  | cons y q ih => simp only [List.foldl_cons]; refine Int.le_trans ?_ (ih _); unfold mxS; split <;> omega
theorem foldl_mx {D : List T} (z : Int) (hz : z ≤ 60) (h : ∀ t ∈ D, kindT t = 31 → numT t = 0) (hk : Dk D) : 60 < D.foldl mxS z ↔ ∃ t ∈ D, 60 < numT t := by
  induction D generalizing z with
  | nil => simp only [List.foldl_nil, List.not_mem_nil, false_and, exists_false, iff_false]; omega
  | cons x r ih =>
    have hx := hk x (by simp)
    have h0 := h x (by simp)
    simp only [List.foldl_cons, List.mem_cons, exists_eq_or_imp]
    by_cases h6 : 60 < numT x
    · have e : kindT x = 32 := by omega
      have := mono_mx r (mxS z x)
      have : mxS z x = max z (numT x) := by unfold mxS; rw [if_pos e]
      exact ⟨fun _ => .inl h6, fun _ => by omega⟩
    · rw [ih (mxS z x) (by unfold mxS; split <;> omega) (fun t ht => h t (by simp [ht])) (fun t ht => hk t (by simp [ht]))]
      exact ⟨.inr, fun h => h.resolve_left h6⟩
theorem mx_any {D : List T} (h : ∀ t ∈ D, kindT t = 31 → numT t = 0) (hk : Dk D) : decide (60 < mxD D) = D.any fun t => decide (60 < numT t) := by
  rw [Bool.eq_iff_iff, List.any_eq_true, decide_eq_true_iff]
  simp only [decide_eq_true_iff]
  exact foldl_mx 0 (by decide) h hk
theorem decl_num {t : T} (h : formedT t = true) (hk : kindT t = 31) : numT t = 0 := by
  obtain ⟨k, s, m, kk⟩ := t
  have := (formed_parts h).2.1
  have e : k = 31 := hk
  subst e
  show m = 0
  simpa [numOk] using this
end Go.Proofs.YtpebfdplapeejaaGreatDoor
namespace Go.Proofs.YtpebfdplapeejaaGreatDoor
open Go.RowKit
open Pl

set_option maxHeartbeats 800000 in
theorem declKind_any (k : Int) (w : World) : Calls Tryz.prog 69 #[.int .i64 k] w fun e w' => e = .returned (.int .i64 (declK k)) ∧ w = w' := by
 by_cases h2 : k = 2
 ·subst h2
  go_enter Tryz.func69, Tryz.ntmps69
  go_wp2
  go_ret
  exact ⟨rfl, rfl⟩
 by_cases h21 : k = 21
 ·subst h21
  go_enter Tryz.func69, Tryz.ntmps69
  go_wp2
  go_ret
  exact ⟨rfl, rfl⟩
 by_cases h23 : k = 23
 ·subst h23
  go_enter Tryz.func69, Tryz.ntmps69
  go_wp2
  go_ret
  exact ⟨rfl, rfl⟩
 by_cases h26 : k = 26
 ·subst h26
  go_enter Tryz.func69, Tryz.ntmps69
  go_wp2
  go_ret
  exact ⟨rfl, rfl⟩
 by_cases h3 : k = 3
 ·subst h3
  go_enter Tryz.func69, Tryz.ntmps69
  go_wp2
  go_ret
  exact ⟨rfl, rfl⟩
 by_cases h4 : k = 4
 ·subst h4
  go_enter Tryz.func69, Tryz.ntmps69
  go_wp2
  go_ret
  exact ⟨rfl, rfl⟩
 by_cases h22 : k = 22
 ·subst h22
  go_enter Tryz.func69, Tryz.ntmps69
  go_wp2
  go_ret
  exact ⟨rfl, rfl⟩
 have e2 : (k == 2) = false := by simpa using h2
 have e21 : (k == 21) = false := by simpa using h21
 have e23 : (k == 23) = false := by simpa using h23
 have e26 : (k == 26) = false := by simpa using h26
 have e3 : (k == 3) = false := by simpa using h3
 have e4 : (k == 4) = false := by simpa using h4
 have e22 : (k == 22) = false := by simpa using h22
 rw [show declK k = 0 by simp [declK, h2, h21, h23, h26, h3, h4, h22]]
 go_enter Tryz.func69, Tryz.ntmps69
 go_wp2
 go_ret
 exact ⟨rfl, rfl⟩
/-- An error of the program's own type. -/
def errV (c : Int) (s : ByteArray) : Value := .iface 56 (.agg #[.int .i64 c, .string s])
theorem cntK_take {D : List T} {i : Nat} {t : T} (h : D[i]? = some t) (k : Int) : cntK (D.take (i + 1)) k = cntK (D.take i) k + (if kindT t = k then 1 else 0) := by rw [take_snoc h, cntK_snoc]
theorem mxD_take {D : List T} {i : Nat} {t : T} (h : D[i]? = some t) : mxD (D.take (i + 1)) = if kindT t = 32 then max (mxD (D.take i)) (numT t) else mxD (D.take i) := by rw [take_snoc h, mxD_snoc]
/-- One node of a list, in a later world. -/
theorem node_at {w w' : World} {a : Option Addr} {D : List T} {i : Nat} {k m : Int} {s : ByteArray} {kk : List T} (hk : Kids w 0 a D) (hb : Below w.heap.size w w') (hx : D[i]? = some (.node k s m kk)) :
  ∃ (b o : Nat) (xa : Option Addr) (xc : Nat), a = some ⟨b, o, none⟩ ∧ w'.cell? ⟨b, o + i * 4, none⟩ = some (.int .i64 k) ∧ w'.cell? ⟨b, o + i * 4 + 1, none⟩ = some (.string s) ∧ w'.cell? ⟨b, o + i * 4 + 2, none⟩ = some (.int .i64 m) ∧ w'.cell? ⟨b, o + i * 4 + 3, none⟩ = some (.slice xa kk.length xc) ∧ s.size ≤ maxLen ∧ kk.length ≤ maxLen ∧ Kids w' 0 xa kk := by
 rcases hk.below hb with rfl | ⟨b, o, rfl, _, hll⟩
 ·simp at hx
 ·obtain ⟨xa, xc, h⟩ := hll.at hx
  exact ⟨b, o, xa, xc, rfl, h⟩
def manyP (D : List T) : Bool := decide (8 < cntK D 31) || decide (4 < cntK D 32) || decide (60 < mxD D)
set_option maxRecDepth 100000 in
set_option maxHeartbeats 3200000 in
theorem counts_any (D : List T) (a : Option Addr) (c : Nat) (w : World) (hn : D.length ≤ 1000) (hk : Kids w 0 a D) (hd : Dk D) :
  Calls Tryz.prog 37 #[.slice a D.length c] w fun e w' => e = .returned (if manyP D = true then errV 3 ⟨#[]⟩ else .nilIface) ∧ Below w.heap.size w w' := by
 have HK := mkHid hk
 have HD := mkHid hd
 obtain ⟨r, hr⟩ : ∃ r, manyP D = r := ⟨_, rfl⟩
 have HR := mkHid hr
 rw [hr]
 clear hk hd hr
 go_enter Tryz.func37, Tryz.ntmps37
 go_wp2
 go_loopg [3, 4, 5, 10] D.length (fun g s3 s4 s5 s10 wr => ∃ (k : Nat), k + g = D.length ∧ s10 = .int .i64 k ∧ s3 = .int .i64 (cntK (D.take k) 31 : Nat) ∧ s4 = .int .i64 (cntK (D.take k) 32 : Nat) ∧ s5 = .int .i64 (mxD (D.take k)) ∧ Below w.heap.size w wr)
 case atStart => exact ⟨0, by omega, rfl, rfl, rfl, rfl, Below.refl _ _⟩
 case round =>
  obtain ⟨k, hkg, rfl, rfl, rfl, rfl, hbel⟩ := hrel
  have HB := mkHid hbel
  have hv := cntK_le (D.take k) 31
  have ha := cntK_le (D.take k) 32
  rw [List.length_take] at hv ha
  by_cases hlt : k < D.length
  ·obtain ⟨x, hx⟩ : ∃ x, D[k]? = some x := ⟨_, List.getElem?_eq_getElem hlt⟩
   have HX := mkHid hx
   have h1 := cntK_take hx 31
   have h2 := cntK_take hx 32
   have h3 := mxD_take hx
   have hkd := HD.out x (List.mem_of_getElem? hx)
   obtain ⟨xk, xs, xm, xkk⟩ := x
   obtain ⟨b, o, xa, xc, rfl, c0, c1, c2, c3, _, _, _⟩ := node_at HK.out hbel hx
   have i0 : (0 : Int) ≤ (k : Int) := by omega
   have i1 : (k : Int) < (D.length : Int) := by omega
   have HB2 := mkHid (hbel.alloc hbel.size (.cells #[.int .i64 xk, .string xs, .int .i64 xm, .slice xa xkk.length xc] 33))
   obtain ⟨g1, rfl⟩ : ∃ q, gk = q + 1 := ⟨gk - 1, by omega⟩
   obtain ⟨nv, hnv⟩ : ∃ q, cntK (D.take k) 31 = q := ⟨_, rfl⟩
   obtain ⟨na, hna⟩ : ∃ q, cntK (D.take k) 32 = q := ⟨_, rfl⟩
   obtain ⟨mx, hmx⟩ : ∃ q, mxD (D.take k) = q := ⟨_, rfl⟩
   rw [hnv] at h1 hv ⊢
   rw [hna] at h2 ha ⊢
   rw [hmx] at h3 ⊢
   have w1 : IntKind.i64.wrap ((nv : Int) + 1) = (nv : Int) + 1 := IntWalk.i64_in _ (by omega)
   have w2 : IntKind.i64.wrap ((na : Int) + 1) = (na : Int) + 1 := IntWalk.i64_in _ (by omega)
   have w3 : IntKind.i64.wrap ((k : Int) + 1) = (k : Int) + 1 := IntWalk.i64_in _ (by omega)
   have kd : xk = 31 ∨ xk = 32 := hkd
   simp only [kindT, numT] at h1 h2 h3
   have HH := mkHid (And.intro h1 (And.intro h2 h3))
   clear hx hbel hkd hnv hna hmx h1 h2 h3 hv ha
   rcases kd with rfl | rfl
   ·go_wp2
    go_roundg g1
    case rel =>
     obtain ⟨e1, e2, e3⟩ := HH.out
     refine ⟨k + 1, by omega, by simp, ?_, ?_, ?_, HB2.out⟩
     ·rw [e1]; simp
     ·rw [e2]; simp
     ·rw [e3]; simp
    case measure => omega
   ·go_wp2
    go_roundg g1
    case rel =>
     obtain ⟨e1, e2, e3⟩ := HH.out
     refine ⟨k + 1, by omega, by simp, ?_, ?_, ?_, HB2.out⟩
     ·rw [e1]; simp
     ·rw [e2]; simp
     ·rw [e3]; simp
    case measure => omega
  ·have hkl : k = D.length := by omega
   subst hkl
   rw [List.take_length] at hv ha ⊢
   have i1 : ¬ (D.length : Int) < (D.length : Int) := by omega
   unfold manyP at HR
   obtain ⟨nv, hnv⟩ : ∃ q, cntK D 31 = q := ⟨_, rfl⟩
   obtain ⟨na, hna⟩ : ∃ q, cntK D 32 = q := ⟨_, rfl⟩
   obtain ⟨mx, hmx⟩ : ∃ q, mxD D = q := ⟨_, rfl⟩
   rw [hnv, hna, hmx] at HR
   rw [hnv, hna, hmx]
   by_cases h8 : 8 < nv
   ·have j8 : (8 : Int) < (nv : Int) := by omega
    obtain rfl : true = r := by rw [← HR.out]; simp [h8]
    go_wp2
    go_ret
    exact ⟨rfl, HB.out⟩
   ·have j8 : ¬ (8 : Int) < (nv : Int) := by omega
    by_cases h4 : 4 < na
    ·have j4 : (4 : Int) < (na : Int) := by omega
     obtain rfl : true = r := by rw [← HR.out]; simp [h4]
     go_wp2
     go_ret
     exact ⟨rfl, HB.out⟩
    ·have j4 : ¬ (4 : Int) < (na : Int) := by omega
     by_cases h6 : 60 < mx
     ·obtain rfl : true = r := by rw [← HR.out]; simp [h6]
      go_wp2
      go_ret
      exact ⟨rfl, HB.out⟩
     ·obtain rfl : false = r := by rw [← HR.out]; simp [h8, h4, h6]
      go_wp2
      go_ret
      exact ⟨rfl, HB.out⟩
end Go.Proofs.YtpebfdplapeejaaGreatDoor
namespace Go.Proofs.YtpebfdplapeejaaGreatDoor
open Go.RowKit
open Pl

/-- A row of one's own of trees that own their memory, in blocks from B on. -/
structure OwnA (w : World) (B : Nat) (v : Value) (els : List A) : Prop where
 own : w.ownsRow B 33 4 v els.length (cellsL els)
 sits : SitsL w els
 new : NewL B els
 apart : ∀ g, v.ownBlock = some g → g ∉ feet els
theorem OwnA.nil (w : World) (B : Nat) : OwnA w B (.slice none 0 0) [] := ⟨World.ownsRow_nil _ _ _ _, trivial, ⟨List.nodup_nil, fun b hb => (by cases hb)⟩, fun g e => (by cases e)⟩
theorem OwnA.grown {w w' : World} {B : Nat} {v : Value} {els : List A} {row : Option Nat} (h : OwnA w B v els) (hg : w.grownBy w' row) (hr : ∀ p, row = some p → p < B) : OwnA w' B v els := by
 have lt := SitsL.lt h.sits
 refine ⟨h.own.kept hg ?_, h.sits.stay fun q hq => hg.block q (lt q hq) fun e => ?_, h.new, h.apart⟩
 ·cases hv : v.ownBlock with
  | none => exact .inl rfl
  | some g => exact .inr fun e => by have := (h.own.lt g hv).1; have := hr g e.symm; omega
 ·have := h.new.2 q hq
  have := hr q e.symm
  omega
theorem below_grown {w w' : World} (h : Below w.heap.size w w') (row : Option Nat) : w.grownBy w' row := ⟨h.os, h.tape, h.output, h.size, fun q hq _ => h.block q hq⟩
theorem OwnA.below {w w' : World} {B : Nat} {v : Value} {els : List A} (h : OwnA w B v els) (hb : Below w.heap.size w w') : OwnA w' B v els := h.grown (below_grown hb none) (fun p e => by cases e)
theorem NewL.append {n n1 : Nat} {xs ys : List A} (h : NewL n xs) (hlt : ∀ b ∈ feet xs, b < n1) (hy : NewL n1 ys) (hn : n ≤ n1) : NewL n (xs ++ ys) := by
 unfold NewL
 rw [feet_append]
 refine ⟨List.nodup_append.2 ⟨h.1, hy.1, fun p hp q hq e => ?_⟩, fun b hb => ?_⟩
 ·have h1 := hlt p hp
  have h2 := hy.2 q hq
  omega
 ·rcases List.mem_append.1 hb with hb | hb
  ·exact h.2 b hb
  ·exact Nat.le_trans hn (hy.2 b hb)
theorem sitsL_append {w : World} {xs ys : List A} (h : SitsL w xs) (hy : SitsL w ys) : SitsL w (xs ++ ys) :=
 (sitsL_iff _ _).2 fun y hm => by
  rcases List.mem_append.1 hm with hm | hm
  ·exact (sitsL_iff _ _).1 h y hm
  ·exact (sitsL_iff _ _).1 hy y hm
/-- Some trees more: they are younger than the row; they lay in a block of their own. -/
theorem OwnA.push {w w3 w4 : World} {B g c2 j : Nat} {sa : Option Addr} {sc : Nat} {els xs : List A} {cs : Array Value} (h : OwnA w B (.slice sa els.length sc) els) (hb : Below w.heap.size w w3) (hx : SitsL w3 xs) (hn : NewL w.heap.size xs) (hB : B ≤ w.heap.size)
  (hown : w4.ownsRow B 33 4 (.slice (some ⟨g, 0, none⟩) (els.length + j) c2) (els.length + j) (cellsL els ++ cellsL xs)) (hgrow : (w3.alloc (.cells cs 33)).grownBy w4 (Value.slice sa els.length sc).ownBlock)
  (hat : (Value.slice sa els.length sc).ownBlock = some g ∨ g = w3.heap.size + 1) (hj : xs.length = j) :
  OwnA w4 B (.slice (some ⟨g, 0, none⟩) (els ++ xs).length c2) (els ++ xs) := by
 have h3 := h.below hb
 have lx := SitsL.lt hx
 have le := SitsL.lt h3.sits
 have le0 := SitsL.lt h.sits
 have hol := h.own.lt
 have hlen : (els ++ xs).length = els.length + j := by simp [hj]
 have keep : ∀ q, q < w3.heap.size → (∀ g', (Value.slice sa els.length sc).ownBlock = some g' → q ≠ g') → w4.heap[q]? = w3.heap[q]? := fun q hq hne => by
  rw [hgrow.block q (by simp; omega) (fun e => hne q e.symm rfl), Lib.alloc_old _ _ _ hq]
 refine ⟨?_, ?_, ?_, ?_⟩
 ·rw [hlen, cellsL_append]
  exact hown
 ·refine sitsL_append (h3.sits.stay fun q hq => ?_) (hx.stay fun q hq => ?_)
  ·rw [keep q (le q hq) (fun g' e => fun e2 => h.apart g' e (e2 ▸ hq))]
  ·rw [keep q (lx q hq) (fun g' e => by have := (hol g' e).2; have := hn.2 q hq; omega)]
 ·exact NewL.append h.new le0 hn hB
 ·intro g' e hq
  simp [Value.ownBlock] at e
  subst e
  rw [feet_append, List.mem_append] at hq
  rcases hat with hat | hat
  ·rcases hq with hq | hq
   ·exact h.apart g hat hq
   ·have := (hol g hat).2
    have := hn.2 g hq
    omega
  ·rcases hq with hq | hq
   ·have := le g hq; omega
   ·have := lx g hq; omega
/-- The capacity of a tree's list. -/
def A.room : A → Prop
 | .node _ _ _ _ c kk => kk.length ≤ c ∧ c ≤ maxLen
theorem OwnA.tree {w : World} {B : Nat} {sa : Option Addr} {sc : Nat} {els : List A} (h : OwnA w B (.slice sa els.length sc) els) {k m : Int} {s : ByteArray} (hs : s.size ≤ maxLen) (hn : els.length ≤ maxLen) :
  Sits w (.node k s m sa sc els) ∧ New B (.node k s m sa sc els) ∧ (A.node k s m sa sc els).room := by
 rcases h.own.2 with ⟨e, h0⟩ | ⟨g, c, cur, e, hb, hg, h1, h2, h3, h4⟩
 ·have : els = [] := List.eq_nil_of_length_eq_zero h0
  subst this
  simp at e
  obtain ⟨rfl, rfl⟩ := e
  exact ⟨Sits.leaf _ _ _ hs, New.leaf _ _ _ _ _ _, by simp [A.room]⟩
 ·simp at e
  obtain ⟨rfl, rfl⟩ := e
  refine ⟨Sits.node hs hn h.sits hg (fun i v hv => ?_), New.node h.new hb (h.apart g rfl), h1, h2⟩
  rw [← h4, List.getElem?_take] at hv
  split at hv
  ·simpa using hv
  ·cases hv
theorem below_put4 {B : Nat} {a b : World} (h : Below B a b) {p : Nat} (hp : B ≤ p) (v0 v1 v2 v3 : Value) : Below B a (put4 b p v0 v1 v2 v3) :=
 (((h.setCell (p := ⟨p, 0, none⟩) hp _).setCell (p := ⟨p, 1, none⟩) hp _).setCell (p := ⟨p, 2, none⟩) hp _).setCell (p := ⟨p, 3, none⟩) hp _
/-- A tree whose list may be appended to. -/
def A.mine (w : World) (B : Nat) : A → Prop
 | .node _ s _ a c kk => OwnA w B (.slice a kk.length c) kk ∧ s.size ≤ maxLen ∧ kk.length ≤ maxLen
theorem A.mine.tree {w : World} {B : Nat} {x : A} (h : x.mine w B) : Sits w x ∧ New B x ∧ x.room := by
 obtain ⟨k, s, m, a, c, kk⟩ := x
 exact h.1.tree h.2.1 h.2.2
theorem A.mine.grown {w w' : World} {B : Nat} {x : A} {row : Option Nat} (h : x.mine w B) (hg : w.grownBy w' row) (hr : ∀ p, row = some p → p < B) : x.mine w' B := by
 obtain ⟨k, s, m, a, c, kk⟩ := x
 exact ⟨h.1.grown hg hr, h.2⟩
theorem A.mine.below {w w' : World} {B : Nat} {x : A} (h : x.mine w B) (hb : Below w.heap.size w w') : x.mine w' B := h.grown (below_grown hb none) (fun p e => by cases e)
theorem put4_grown (w : World) (p : Nat) (v0 v1 v2 v3 : Value) : w.grownBy (put4 w p v0 v1 v2 v3) (some p) := ⟨rfl, rfl, rfl, by rw [put4_size]; exact Nat.le_refl _, fun q _ hq => put4_other _ _ _ _ (fun e => hq (by rw [e]))⟩
theorem A.mine.put4 {w : World} {B : Nat} {x : A} (h : x.mine w B) {p : Nat} (hp : p < B) (v0 v1 v2 v3 : Value) : x.mine (put4 w p v0 v1 v2 v3) B := h.grown (put4_grown w p _ _ _ _) (fun q e => by cases e; exact hp)
theorem A.mine.mono {w : World} {B B' : Nat} {x : A} (h : x.mine w B) (hB : B' ≤ B) : x.mine w B' := by
 obtain ⟨k, s, m, a, c, kk⟩ := x
 obtain ⟨⟨⟨h1, h2⟩, h3, h4, h5⟩, h6⟩ := h
 refine ⟨⟨⟨h1, ?_⟩, h3, h4.mono hB, h5⟩, h6⟩
 rcases h2 with h2 | ⟨g, cap, cur, e, hb, r⟩
 ·exact .inl h2
 ·exact .inr ⟨g, cap, cur, e, Nat.le_trans hB hb, r⟩
/-- Trees laid into a new list. -/
theorem made_mine {w w' : World} {n b : Nat} {xs : List A} {k m : Int} {s : ByteArray} (hs : SitsL w xs) (hb : Below w.heap.size w w') (hB : w'.heap[b]? = some (.cells (cellsL xs).toArray 33 (0, 0))) (hge : w.heap.size ≤ b) (hn : NewL n xs) (hle : n ≤ w.heap.size)
  (hz : s.size ≤ maxLen) (hl : xs.length ≤ maxLen) : (A.node k s m (some ⟨b, 0, none⟩) xs.length xs).mine w' n := by
 have hlt := SitsL.lt hs
 refine ⟨⟨⟨by rw [cellsL_len], .inr ⟨b, xs.length, _, rfl, by omega, hB, Nat.le_refl _, hl, by rw [List.size_toArray, cellsL_len], by rw [← cellsL_len xs]; simp⟩⟩, hs.stay fun q hq => hb.block q (hlt q hq), hn, fun g e q => ?_⟩, hz, hl⟩
 simp [Value.ownBlock] at e
 have := hlt _ q
 omega
theorem leaf_mine (w : World) (B : Nat) {k m : Int} {s : ByteArray} (hs : s.size ≤ maxLen) : (A.node k s m none 0 []).mine w B := ⟨OwnA.nil _ _, hs, by simp [maxLen]⟩
/-- A new tree is answered. -/
def TPost (t : T) (w : World) (e : Ending) (w' : World) : Prop := ∃ x : A, e = .returned x.val ∧ x.erase = t ∧ x.mine w' w.heap.size ∧ Below w.heap.size w w'

set_option maxRecDepth 100000 in
set_option maxHeartbeats 800000 in
theorem varNamed_any (s : ByteArray) (w : World) (hs : s.size ≤ 8) : Calls Tryz.prog 71 #[.string s] w fun e w' => e = .returned (A.node 2 s 0 none 0 []).val ∧ Below w.heap.size w w' := by
 have HB := mkHid ((Below.refl w.heap.size w).alloc (Nat.le_refl _) (.cells #[.int .i64 0, .string ⟨#[]⟩, .int .i64 0, .slice none 0 0] 33))
 have h0 := heap_alloc_new w (.cells #[.int .i64 0, .string ⟨#[]⟩, .int .i64 0, .slice none 0 0] 33)
 obtain ⟨R, hR⟩ : ∃ q, w.heap.size = q := ⟨_, rfl⟩
 obtain ⟨w1, hw1⟩ : ∃ q, w.alloc (.cells #[.int .i64 0, .string ⟨#[]⟩, .int .i64 0, .slice none 0 0] 33) = q := ⟨_, rfl⟩
 rw [hw1, hR] at h0
 rw [hw1] at HB
 have HC := mkHid (clone_any s w1 (by omega))
 have H0 := mkHid h0
 go_enter Tryz.func71, Tryz.ntmps71
 go_wp2_with fail
 first | rw [hw1] | skip
 first | rw [hR] | skip
 go_wp2_with (go_at_call 15; refine HC.out.mono ?_; rintro e w2 ⟨rfl, hb2⟩; have H2 := (hb2.block R (Array.getElem?_eq_some_iff.1 H0.out).1).trans H0.out; obtain ⟨c0, c1, c2, c3, f0, f1, f2, f3⟩ := four_of H2)
 obtain ⟨q0, q1, q2, q3⟩ := put4_cells0 H2 (.int .i64 2) (.string s) (.int .i64 0) (.slice none 0 0)
 refine bodyPost_ret (v := (A.node 2 s 0 none 0 []).val) (by simp [results, Tryz.results71, go_sem, q0, q1, q2, q3, A.val]) rfl ⟨rfl, ?_⟩
 exact below_put4 (below_step HB.out hb2) (Nat.le_of_eq hR) _ _ _ _

set_option maxRecDepth 100000 in
set_option maxHeartbeats 1600000 in
theorem setTo_any (s : ByteArray) (x : A) (w : World) (hs : s.size ≤ 8) : Calls Tryz.prog 70 #[.string s, x.val] w fun e w' => ∃ b, e = .returned (A.node 21 s 0 (some ⟨b, 0, none⟩) 1 [x]).val ∧ w'.heap[b]? = some (.cells (cellsL [x]).toArray 33 (0, 0)) ∧ w.heap.size ≤ b ∧ Below w.heap.size w w' := by
 obtain ⟨zk, zs, zm, za, zc, zkk⟩ := x
 simp only [A.val]
 have HB := mkHid (((Below.refl w.heap.size w).alloc (Nat.le_refl _) (.cells #[.int .i64 zk, .string zs, .int .i64 zm, .slice za zkk.length zc] 33)).alloc (by simp) (.cells #[.int .i64 0, .string ⟨#[]⟩, .int .i64 0, .slice none 0 0] 33))
 have F0 := Four.new w zk zs zm za zkk.length zc 33
 have F1 := F0.below ((Below.refl _ _).alloc (Nat.le_refl _) (.cells #[.int .i64 0, .string ⟨#[]⟩, .int .i64 0, .slice none 0 0] 33))
 have h0 := heap_alloc_new (w.alloc (.cells #[.int .i64 zk, .string zs, .int .i64 zm, .slice za zkk.length zc] 33)) (.cells #[.int .i64 0, .string ⟨#[]⟩, .int .i64 0, .slice none 0 0] 33)
 have hsz : (w.alloc (.cells #[.int .i64 zk, .string zs, .int .i64 zm, .slice za zkk.length zc] 33)).heap.size = w.heap.size + 1 := by simp
 rw [hsz] at h0
 obtain ⟨P, hP⟩ : ∃ q, w.heap.size = q := ⟨_, rfl⟩
 obtain ⟨w1, hw1⟩ : ∃ q, (w.alloc (.cells #[.int .i64 zk, .string zs, .int .i64 zm, .slice za zkk.length zc] 33)).alloc (.cells #[.int .i64 0, .string ⟨#[]⟩, .int .i64 0, .slice none 0 0] 33) = q := ⟨_, rfl⟩
 rw [hw1] at h0 F1 HB
 rw [hP] at h0 F1
 obtain ⟨p0, p1, p2, p3⟩ := F1
 obtain ⟨c0, c1, c2, c3, f0, f1, f2, f3⟩ := four_of h0
 have HC := mkHid (fun W => clone_any s W (by omega))
 have H0 := mkHid h0
 have hlt : P + 1 < w1.heap.size := (Array.getElem?_eq_some_iff.1 h0).1
 go_enter Tryz.func70, Tryz.ntmps70
 go_wp2_with fail
 first | rw [hw1] | skip
 first | rw [hP] | skip
 clear hw1 hsz F0 h0
 go_region_law (first | (go_simp; go_at_call 15; refine (HC.out _).mono ?_; rintro e w2 ⟨rfl, hb2⟩; have HB2 := mkHid hb2; first | (obtain ⟨r0, r1, r2, r3⟩ := Four.below (w := w1.drew) ⟨p0, p1, p2, p3⟩ hb2; have H2 := mkHid ((Lib.alloc_old w2 (.cells #[.int .i64 zk, .string zs, .int .i64 zm, .slice za zkk.length zc] 33) (P + 1) (Nat.lt_of_lt_of_le hlt hb2.size)).trans ((hb2.block (P + 1) hlt).trans H0.out)); obtain ⟨d0, d1, d2, d3, e0, e1, e2, e3⟩ := four_of H2.out) | (have H2 := mkHid ((hb2.block (P + 1) (by simp; omega)).trans ((Lib.alloc_old w1.drew _ _ hlt).trans H0.out)); obtain ⟨d0, d1, d2, d3, e0, e1, e2, e3⟩ := four_of H2.out); clear hb2))
 all_goals
  go_wp2
  first
  | (have hz2 := HB2.out.size
     obtain ⟨q0, q1, q2, q3⟩ := put4_cells0 H2.out (.int .i64 21) (.string s) (.int .i64 0) (.slice (some ⟨w2.heap.size, 0, none⟩) 1 1)
     refine bodyPost_ret (v := .agg #[.int .i64 21, .string s, .int .i64 0, .slice (some ⟨w2.heap.size, 0, none⟩) 1 1]) (by simp [results, Tryz.results70, go_sem, q0, q1, q2, q3]) rfl ⟨w2.heap.size, rfl, ?_, ?_, ?_⟩
     ·refine (put4_other _ _ _ _ (by show w2.heap.size ≠ P + 1; have : P + 1 < w2.heap.size := Nat.lt_of_lt_of_le hlt hz2; omega)).trans ?_
      exact heap_alloc_new w2 _
     ·exact Nat.le_trans HB.out.size hz2
     ·refine below_put4 ((below_step HB.out.drew HB2.out).alloc (Nat.le_trans HB.out.size hz2) _) (by omega) _ _ _ _)
  | (obtain ⟨q0, q1, q2, q3⟩ := put4_cells0 H2.out (.int .i64 21) (.string s) (.int .i64 0) (.slice (some ⟨w1.heap.size, 0, none⟩) 1 1)
     refine bodyPost_ret (v := .agg #[.int .i64 21, .string s, .int .i64 0, .slice (some ⟨w1.heap.size, 0, none⟩) 1 1]) (by simp [results, Tryz.results70, go_sem, q0, q1, q2, q3]) rfl ⟨w1.heap.size, rfl, ?_, HB.out.size, ?_⟩
     ·refine (put4_other _ _ _ _ (by show w1.heap.size ≠ P + 1; omega)).trans ?_
      exact (HB2.out.block w1.heap.size (by simp)).trans (heap_alloc_new w1.drew _)
     ·refine below_put4 (below_step (HB.out.drew.alloc HB.out.size _) HB2.out) (by omega) _ _ _ _)
end Go.Proofs.YtpebfdplapeejaaGreatDoor
