/-
  A NODE WHOSE LIST GROWS, while the program reads.
  CONTRACT of the program's reader's shortStmt: an assignment to a name.
-/
import Derived.Test.YtpebfdplapeejaaGreatDoorMRexpr
import Derived.Test.YtpebfdplapeejaaGreatDoorMRshort
import Derived.Deep.RegionLaw
import Derived.Deep.AppendLies
namespace Go.Proofs.YtpebfdplapeejaaGreatDoor
open Go.RowKit
open Pl

/-- A node lies in block p1; its list, of trees that own their memory, in a row of its own; the result's variable is still zero. -/
structure Stem (rb : Nat) (a : Option Addr) (cap : Nat) (ws : List W3) (sz : Nat) (w : World) (p1 : Nat) (k : Int) (s : ByteArray) (w' : World) (els : List A) (sa : Option Addr) (sc : Nat) (j : Nat) : Prop where
  here : w'.heap[p1]? = some (.cells #[.int .i64 k, .string s, .int .i64 0, .slice sa els.length sc] 33 (0, 0))
  res : w'.heap[w.heap.size]? = some (.cells #[.int .i64 0, .string ⟨#[]⟩, .int .i64 0, .slice none 0 0] 33 (0, 0))
  own : w'.ownsRow (p1 + 1) 33 4 (.slice sa els.length sc) els.length (cellsL els)
  sits : SitsL w' els
  new : NewL (p1 + 1) els
  apart : ∀ g, (Value.slice sa els.length sc).ownBlock = some g → g ∉ feet els
  rd : Rd w' rb a cap ws j sz
  step : Step rb w w'
  lt : w.heap.size < p1
  rlt : rb < w.heap.size
section
variable {rb : Nat} {a : Option Addr} {cap : Nat} {ws : List W3} {sz : Nat} {w : World} {p1 : Nat} {k : Int} {s : ByteArray} {w' : World} {els : List A} {sa : Option Addr} {sc : Nat} {j : Nat}
theorem Stem.plt (h : Stem rb a cap ws sz w p1 k s w' els sa sc j) : p1 < w'.heap.size := (Array.getElem?_eq_some_iff.1 h.here).1
theorem Stem.on {w2 : World} {j2 : Nat} (h : Stem rb a cap ws sz w p1 k s w' els sa sc j) (st : Step rb w' w2) (r : Rd w2 rb a cap ws j2 sz) : Stem rb a cap ws sz w p1 k s w2 els sa sc j2 := by
  have hr := h.rlt
  have hl := h.lt
  refine ⟨st.at h.here (by omega), st.at h.res (by omega), h.own.kept st (.inr fun e => ?_), st.sitsL h.sits (fun q hq => by have := h.new.2 q hq; omega), h.new, h.apart, r, h.step.trans st, hl, hr⟩
  have := (h.own.lt rb e).1
  omega
theorem Stem.drew (h : Stem rb a cap ws sz w p1 k s w' els sa sc j) : Stem rb a cap ws sz w p1 k s w'.drew els sa sc j := h.on (Step.refl rb w').drew h.rd.drew
/-- One tree more. -/
theorem Stem.push {w3 w4 : World} {x : A} {j2 g c2 : Nat} (h : Stem rb a cap ws sz w p1 k s w' els sa sc j) (st : Step rb w' w3) (r : Rd w3 rb a cap ws j2 sz) (hx : Sits w3 x) (hn : New w'.heap.size x) (cs : Array Value)
    (hown : w4.ownsRow (p1 + 1) 33 4 (.slice (some ⟨g, 0, none⟩) (els.length + 1) c2) (els.length + 1) (cellsL els ++ x.cells)) (hgrow : (w3.alloc (.cells cs 33)).grownBy w4 (Value.slice sa els.length sc).ownBlock)
    (hat : (Value.slice sa els.length sc).ownBlock = some g ∨ g = w3.heap.size + 1) :
    Stem rb a cap ws sz w p1 k s (w4.setCell ⟨p1, 3, none⟩ (.slice (some ⟨g, 0, none⟩) (els.length + 1) c2)) (els ++ [x]) (some ⟨g, 0, none⟩) c2 j2 := by
  have h3 := h.on st r
  have hr := h.rlt
  have hl := h.lt
  have hp := h3.plt
  have hp0 := h.plt
  have lx := Sits.lt x hx
  have le := SitsL.lt h3.sits
  have le0 := SitsL.lt h.sits
  have hol := h.own.lt
  have hlen : (els ++ [x]).length = els.length + 1 := by simp
  have hcl : cellsL (els ++ [x]) = cellsL els ++ x.cells := by rw [cellsL_append]; simp [cellsL]
  -- what the append leaves
  have keep : ∀ q, q < w3.heap.size → (∀ g', (Value.slice sa els.length sc).ownBlock = some g' → q ≠ g') → w4.heap[q]? = w3.heap[q]? := fun q hq hne => by
    rw [hgrow.block q (by simp; omega) (fun e => hne q e.symm rfl), Lib.alloc_old _ _ _ hq]
  have gg : p1 + 1 ≤ g := by
    have := (hown.lt g rfl).1
    exact this
  have set : ∀ q, q ≠ p1 → (w4.setCell ⟨p1, 3, none⟩ (.slice (some ⟨g, 0, none⟩) (els.length + 1) c2)).heap[q]? = w4.heap[q]? := fun q hq => Below.heap_setCell _ _ _ _ hq
  have p1k := keep p1 hp (fun g' e => by have := (hol g' e).1; omega)
  refine ⟨?_, ?_, ?_, ?_, ?_, ?_, ?_, ?_, hl, hr⟩
  · have := heap_setCell_same w4 p1 3 _ 33 (.slice (some ⟨g, 0, none⟩) (els.length + 1) c2) (p1k.trans h3.here)
    rw [this, hlen]; rfl
  · rw [set _ (by omega), keep _ (by omega) (fun g' e => by have := (hol g' e).1; omega)]
    exact h3.res
  · rw [hlen, hcl]
    exact hown.kept (row := some p1) ⟨rfl, rfl, rfl, by simp [World.setCell], fun q _ hq => set q (fun e => hq (by rw [e]))⟩ (.inr fun e => by simp [Value.ownBlock] at e; omega)
  · refine sitsL_snoc (h3.sits.stay fun q hq => ?_) (Sits.stay x (fun q hq => ?_) hx)
    · rw [set q (by have := h.new.2 q hq; omega), keep q (le q hq) (fun g' e => fun e2 => h.apart g' e (e2 ▸ hq))]
    · rw [set q (by have := hn.2 q hq; omega), keep q (lx q hq) (fun g' e => by have := (hol g' e).2; have := hn.2 q hq; omega)]
  · exact NewL.snoc h.new le0 hn (by omega)
  · intro g' e hq
    rw [hlen] at e
    simp [Value.ownBlock] at e
    subst e
    rw [feet_append, feet_one, List.mem_append] at hq
    rcases hat with hat | hat
    · rcases hq with hq | hq
      · exact h.apart g hat hq
      · have := (hol g hat).2
        have := hn.2 g hq
        omega
    · rcases hq with hq | hq
      · have := le g hq; omega
      · have := lx g hq; omega
  · refine Rd.setCell ?_ (show rb < p1 by omega) _
    refine (r.alloc (.cells cs 33)).keep ⟨hgrow.os, hgrow.tape, hgrow.output, hgrow.size, fun q hq => hgrow.block q (by have := r.lt; simp; omega) (fun e => by have := (hol q e.symm).1; omega)⟩
  · have h4 : Step rb w w4 := ⟨hgrow.os.trans h3.step.os, hgrow.tape.trans h3.step.tape, hgrow.output.trans h3.step.output, by have := hgrow.size; have := h3.step.size; simp at *; omega, fun q hq hne => by
      have := h3.step.size
      rw [keep q (by omega) (fun g' e => by have := (hol g' e).1; omega)]
      exact h3.step.block q hq hne⟩
    exact h4.setCell (.inl (show w.heap.size ≤ p1 by omega)) _
/-- What it is when it is done. -/
theorem Stem.tree (h : Stem rb a cap ws sz w p1 k s w' els sa sc j) (hs : s.size ≤ maxLen) (hn : els.length ≤ maxLen) : Sits w' (.node k s 0 sa sc els) ∧ New (w.heap.size + 1) (.node k s 0 sa sc els) := by
  have hl := h.lt
  rcases h.own.2 with ⟨e, h0⟩ | ⟨g, c, cur, e, hb, hg, h1, h2, h3, h4⟩
  · have : els = [] := List.eq_nil_of_length_eq_zero h0
    subst this
    exact ⟨Sits.leaf _ _ _ hs, New.leaf _ _ _ _ _ _⟩
  · have ea : sa = some ⟨g, 0, none⟩ := by simp at e; exact e.1
    subst ea
    refine ⟨Sits.node hs hn h.sits hg (fun i v hv => ?_), New.node (h.new.mono (by omega)) (by omega) (h.apart g rfl)⟩
    rw [← h4, List.getElem?_take] at hv
    split at hv
    · simpa using hv
    · cases hv
theorem Stem.start {w1 : World} (hP : w1.heap[w.heap.size]? = some (.cells #[.int .i64 0, .string ⟨#[]⟩, .int .i64 0, .slice none 0 0] 33 (0, 0))) (r : Rd w1 rb a cap ws j sz) (st : Step rb w w1) (hr : rb < w.heap.size) (k : Int) (s : ByteArray) :
    Stem rb a cap ws sz w w1.heap.size k s (w1.alloc (.cells #[.int .i64 k, .string s, .int .i64 0, .slice none 0 0] 33)) [] none 0 j := by
  have z1 : w.heap.size < w1.heap.size := (Array.getElem?_eq_some_iff.1 hP).1
  exact ⟨heap_alloc_new w1 _, (Lib.alloc_old _ _ _ z1).trans hP, World.ownsRow_nil _ _ _ _, trivial, ⟨List.nodup_nil, fun b hb => (by cases hb)⟩, fun g e => (by cases e), r.alloc _, st.alloc _, z1, hr⟩
/-- Another kind. -/
theorem Stem.kind (h : Stem rb a cap ws sz w p1 k s w' els sa sc j) (k2 : Int) : Stem rb a cap ws sz w p1 k2 s (w'.setCell ⟨p1, 0, none⟩ (.int .i64 k2)) els sa sc j := by
  have hr := h.rlt
  have hl := h.lt
  have set : ∀ q, q ≠ p1 → (w'.setCell ⟨p1, 0, none⟩ (.int .i64 k2)).heap[q]? = w'.heap[q]? := fun q hq => Below.heap_setCell _ _ _ _ hq
  refine ⟨?_, (set _ (by omega)).trans h.res, h.own.kept (row := some p1) ⟨rfl, rfl, rfl, by simp [World.setCell], fun q _ hq => set q (fun e => hq (by rw [e]))⟩ (.inr fun e => by have := (h.own.lt p1 e).1; omega), h.sits.stay (fun q hq => set q (by have := h.new.2 q hq; omega)), h.new, h.apart, h.rd.setCell (show rb < p1 by omega) _, h.step.setCell (.inl (show w.heap.size ≤ p1 by omega)) _, hl, hr⟩
  have := heap_setCell_same w' p1 0 _ 33 (.int .i64 k2) h.here
  rw [this]; rfl
end
end Go.Proofs.YtpebfdplapeejaaGreatDoor
namespace Go.Proofs.YtpebfdplapeejaaGreatDoor
open Go.RowKit
open Pl

theorem Stem.base {rb : Nat} {a : Option Addr} {cap : Nat} {ws : List W3} {sz : Nat} {w : World} {p1 : Nat} {k : Int} {s : ByteArray} {w' : World} {j : Nat} (hL : w'.heap[p1]? = some (.cells #[.int .i64 k, .string s, .int .i64 0, .slice none 0 0] 33 (0, 0)))
    (hP : w'.heap[w.heap.size]? = some (.cells #[.int .i64 0, .string ⟨#[]⟩, .int .i64 0, .slice none 0 0] 33 (0, 0))) (r : Rd w' rb a cap ws j sz) (st : Step rb w w') (hl : w.heap.size < p1) (hr : rb < w.heap.size) : Stem rb a cap ws sz w p1 k s w' [] none 0 j :=
  ⟨hL, hP, World.ownsRow_nil _ _ _ _, trivial, ⟨List.nodup_nil, fun b hb => (by cases hb)⟩, fun g e => (by cases e), r, st, hl, hr⟩
theorem Stem.rest {rb : Nat} {a : Option Addr} {cap : Nat} {ws : List W3} {sz : Nat} {w : World} {p1 : Nat} {k : Int} {s : ByteArray} {w4 : World} {els : List A} {sa : Option Addr} {sc j : Nat} {v : Value} (h : Stem rb a cap ws sz w p1 k s (w4.setCell ⟨p1, 3, none⟩ v) els sa sc j) :
    w4.heap[w.heap.size]? = some (.cells #[.int .i64 0, .string ⟨#[]⟩, .int .i64 0, .slice none 0 0] 33 (0, 0)) :=
  (Below.heap_setCell w4 ⟨p1, 3, none⟩ v w.heap.size (by have := h.lt; show w.heap.size ≠ p1; omega)).symm.trans h.res
set_option maxRecDepth 100000 in
set_option maxHeartbeats 8000000 in
theorem short_set {rb : Nat} {a : Option Addr} {cap : Nat} {ws : List W3} {sz F : Nat} (he : Env ws) (hE : IExpr rb a cap ws sz F) (hF : 5 * ws.length + 3 ≤ F) (i : Nat) (w : World) (h : Rd w rb a cap ws i sz) (n0 : isW ws i ⟨#[114, 101, 97, 100]⟩ = false) (n1 : isW ws i ⟨#[99, 104, 101, 99, 107]⟩ = false) (n2 : isW ws i ⟨#[115, 107, 105, 112]⟩ = false) (n3 : isW ws i ⟨#[115, 116, 111, 112]⟩ = false) (h1 : kindW ws i = 1) (h2 : isW ws (i + 1) ⟨#[91]⟩ = false) :
    Calls Tryz.prog 53 #[.pointer (some ⟨rb, 0, none⟩)] w (Post rb a cap ws sz w (mShort ws F i)) := by
  have hm : mShort ws F i = want ws (i + 1) ⟨#[61]⟩ ((mExpr ws F (i + 2)).then_ fun y j => .ok (.node 21 (textW ws i) 0 [y]) j) := by unfold mShort; rw [if_neg (by rw [n0]; decide), if_neg (by rw [n1]; decide), if_neg (by rw [n2]; decide), if_neg (by rw [n3]; decide)]; unfold wantK; rw [if_pos h1, if_neg (by rw [h2]; decide)]
  rw [hm]
  clear hm
  have ht := he.text i
  have hfew := he.few
  have hil := kindW_lt h1 (by decide)
  by_cases h3 : isW ws (i + 1) ⟨#[61]⟩ = true
  · rw [show want ws (i + 1) ⟨#[61]⟩ ((mExpr ws F (i + 2)).then_ fun y j => .ok (.node 21 (textW ws i) 0 [y]) j) = (mExpr ws F (i + 2)).then_ fun y j => .ok (.node 21 (textW ws i) 0 [y]) j by unfold want; rw [if_pos h3]]
    have HA := mkHid h
    have hrb := h.lt
    have hO1 := fun w h => hE (i + 2) w (by omega) h
    generalize mExpr ws F (i + 2) = r at hO1 ⊢
    have H1 := mkHid hO1
    obtain ⟨i0, hi0, hz0⟩ := Option.map_eq_some_iff.1 Tryz.info33
    simp only [Prod.mk.injEq] at hz0
    obtain ⟨hz1, hz2, hz3⟩ := hz0
    have HI := mkHid (show Tryz.prog.info? 33 = some i0 ∧ i0.zero = some (.agg #[.int .i64 0, .string ByteArray.empty, .int .i64 0, .slice none 0 0]) ∧ i0.size = 4 ∧ i0.bytes = 56 from ⟨hi0, hz1, hz2, hz3⟩)
    clear hi0 hz1 hz2 hz3
    have C0 := mkHid (fun w h => has_no rb a cap ws i sz ⟨#[114, 101, 97, 100]⟩ w h n0)
    have C1 := mkHid (fun w h => has_no rb a cap ws i sz ⟨#[99, 104, 101, 99, 107]⟩ w h n1)
    have C2 := mkHid (fun w h => has_no rb a cap ws i sz ⟨#[115, 107, 105, 112]⟩ w h n2)
    have C3 := mkHid (fun w h => has_no rb a cap ws i sz ⟨#[115, 116, 111, 112]⟩ w h n3)
    have C4 := mkHid (fun w h => name_yes rb a cap ws i sz w h h1)
    have C5 := mkHid (fun w h => has_no rb a cap ws (i + 1) sz ⟨#[91]⟩ w h h2)
    have C6 := mkHid (fun w h => take_yes rb a cap ws (i + 1) sz ⟨#[61]⟩ w h h3)
    clear h h1 h2 h3 he hE hO1 n0 n1 n2 n3
    go_enter Tryz.func53, Tryz.ntmps53
    go_wp2_with fail
    refine (C0.out _ (HA.out.alloc _)).mono ?_
    rintro e w1 ⟨rfl, r, s⟩
    have R1 := mkHid r
    have S1 := mkHid (((Step.refl rb w).alloc _).trans s)
    have P1 := mkHid (s.at (heap_alloc_new w _) (by omega))
    clear r s
    go_wp2_with fail
    refine (C1.out _ R1.out).mono ?_
    rintro e w2 ⟨rfl, r, s⟩
    have R2 := mkHid r
    have S2 := mkHid (S1.out.trans s)
    have P2 := mkHid (s.at P1.out (by omega))
    clear r s
    go_wp2_with fail
    refine (C2.out _ R2.out).mono ?_
    rintro e w3 ⟨rfl, r, s⟩
    have R3 := mkHid r
    have S3 := mkHid (S2.out.trans s)
    have P3 := mkHid (s.at P2.out (by omega))
    clear r s
    go_wp2_with fail
    refine (C3.out _ R3.out).mono ?_
    rintro e w4 ⟨rfl, r, s⟩
    have R4 := mkHid r
    have S4 := mkHid (S3.out.trans s)
    have P4 := mkHid (s.at P3.out (by omega))
    clear r s
    go_wp2_with fail
    refine (C4.out _ R4.out).mono ?_
    rintro e w5 ⟨rfl, r, s⟩
    have R5 := mkHid r
    have S5 := mkHid (S4.out.trans s)
    have P5 := mkHid (s.at P4.out (by omega))
    clear r s
    go_wp2_with fail
    refine (C5.out _ (R5.out.alloc _)).mono ?_
    rintro e w6 ⟨rfl, r, s⟩
    have R6 := mkHid r
    have S6 := mkHid ((S5.out.alloc _).trans s)
    have P6 := mkHid (s.at ((Lib.alloc_old w5 _ _ (Array.getElem?_eq_some_iff.1 P5.out).1).trans P5.out) (by omega))
    have L6 := mkHid (s.at (heap_alloc_new w5 _) (by have := R5.out.lt; omega))
    have gl : rb < w5.heap.size := R5.out.lt
    clear r s
    go_wp2_with fail
    refine (C6.out _ R6.out).mono ?_
    rintro e w7 ⟨rfl, r, s⟩
    have R7 := mkHid r
    have S7 := mkHid (S6.out.trans s)
    have P7 := mkHid (s.at P6.out (by omega))
    have L7 := mkHid (s.at L6.out (by omega))
    clear r s
    have z5 : w.heap.size < w5.heap.size := (Array.getElem?_eq_some_iff.1 P5.out).1
    obtain ⟨els, sa, sc, hels, hG⟩ : ∃ (els : List A) (sa : Option Addr) (sc : Nat), els = [] ∧ Stem rb a cap ws sz w w5.heap.size 21 (textW ws i) w7 els sa sc (i + 2) := ⟨[], none, 0, rfl, Stem.base L7.out P7.out R7.out S7.out z5 hrb⟩
    have hle : els.length ≤ 1 := by rw [hels]; decide
    have G2 := mkHid hG
    have HEL := mkHid hels
    clear hG hels
    obtain ⟨d0, d1, d2, d3, e0, e1, e2, e3⟩ := four_of G2.out.here
    have hp2 := G2.out.plt
    cases r with
    | no p =>
      go_wp2
      refine wp_region_any (by kernel_rfl) ?_
      change wpAny _ _ _ _ _ _ _ (World.drew _)
      refine wpAny_take (i := 0) (v := ?v1) rfl (by kernel_rfl) (by kernel_rfl) (by kernel_rfl) (fun _ _ _ h => h) (Or.inl ⟨by rfl, ?hy1⟩) ?rest1
      case hy1 => intro w; go_simp; try with_reducible rfl
      refine wpAny_take (i := 2) (v := ?v2) rfl (by kernel_rfl) (by kernel_rfl) (by kernel_rfl) (fun _ _ _ h => h) (Or.inl ⟨by rfl, ?hy2⟩) ?rest2
      case hy2 => intro w; go_simp; try with_reducible rfl
      refine wpAny_ready (rs := [1, 3]) (by kernel_rfl) (by simp) ?_
      refine AllReady.cons rfl (fun K hK => ?_) ?_
      · go_simp
        refine hK _ _ ?_
        clear hK K
        refine wpAny_ready (rs := [3]) (by kernel_rfl) (by simp) ?_
        refine AllReady.cons rfl (fun K hK => ?_) AllReady.nil
        go_simp
        refine (H1.out _ G2.out.rd.drew).mono ?_
        rintro e w3 ⟨⟨m, rfl⟩, r3, s3⟩
        exact ⟨rfl, ⟨m, rfl⟩, r3, G2.out.step.drew.trans s3⟩
      · refine AllReady.cons rfl (fun K hK => ?_) AllReady.nil
        go_simp
        refine (H1.out _ G2.out.rd.drew).mono ?_
        rintro e w3 ⟨⟨m, rfl⟩, r3, s3⟩
        exact ⟨rfl, ⟨m, rfl⟩, r3, G2.out.step.drew.trans s3⟩
    | ok y j3 =>
      go_wp2
      go_region_law (first | (go_simp; go_at_call 52; refine (H1.out _ G2.out.rd.drew).mono ?_; rintro e w3 ⟨z, rfl, hz3, hsz, hnz, r3, s3⟩; obtain ⟨zk, zs, zm, za, zc, zkk⟩ := z; simp only [A.val]; have T3 := G2.out.drew.on s3 r3; obtain ⟨b0, b1, b2, b3, g0, g1, g2, g3⟩ := four_of T3.here; have hp3 := T3.plt; have OW := mkHid (T3.own.alloc (.cells #[.int .i64 zk, .string zs, .int .i64 zm, .slice za zkk.length zc] 33)); have HT3 := mkHid T3; have HS3 := mkHid s3; have HZ := mkHid hz3; have HSZ := mkHid hsz; have HNZ := mkHid hnz; have HR3 := mkHid r3; clear T3 s3 hz3 hsz hnz r3) | (refine step_append_lies _ (by rfl) _ _ _ (by rfl) (w5.heap.size + 1) 33 i0 _ 4 56 Tryz.underlying31 HI.out.1 HI.out.2.1 HI.out.2.2.1 HI.out.2.2.2 rfl (by decide) _ _ _ (by rfl) OW.out ⟨w3.heap.size, 0, none⟩ 1 1 [.int .i64 zk, .string zs, .int .i64 zm, .slice za zkk.length zc] (by rfl) (by rfl) (World.news_of_block (heap_alloc_new w3 _)) (fun u hu => by simp at hu; rcases hu with rfl | rfl | rfl | rfl <;> rfl) (by decide) (by unfold maxLen; omega) (by omega) (by simp; omega) (w3.heap.size + 1) (by simp) ?_; intro g cq w4 hown hgrow hat hlt4; have GP := mkHid (Stem.push (x := .node zk zs zm za zc zkk) G2.out.drew HS3.out HR3.out HSZ.out HNZ.out _ hown hgrow hat); have K4 := (hgrow.block w5.heap.size (by simp; omega) (fun e => absurd (OW.out.lt _ e.symm).1 (Nat.not_succ_le_self _))).trans ((Lib.alloc_old w3 _ _ hp3).trans HT3.out.here); clear b0 b1 b2 b3 g0 g1 g2 g3; obtain ⟨l0, l1, l2, l3, m0, m1, m2, m3⟩ := four_of K4; clear K4 hown hgrow hat OW HS3 HSZ HNZ HR3))
      all_goals
        have PR := GP.out.rest
        obtain ⟨c0, c1, c2, c3, f0, f1, f2, f3⟩ := four_of PR
        have hpp := HT3.out.lt
        go_wp2
        obtain ⟨q0, q1, q2, q3⟩ := put4_cells0 GP.out.res (.int .i64 21) (.string (textW ws i)) (.int .i64 0) (.slice (some ⟨g, 0, none⟩) (els.length + 1) cq)
        obtain ⟨t1, t2⟩ := GP.out.tree ht (by simp; unfold maxLen; omega)
        refine bodyPost_ret (v := (A.node 21 (textW ws i) 0 (some ⟨g, 0, none⟩) cq (els ++ [.node zk zs zm za zc zkk])).val) (by simp [results, Tryz.results53, go_sem, q0, q1, q2, q3, A.val]) rfl ?_
        rw [show ((Res.ok y j3).then_ fun y j => .ok (.node 21 (textW ws i) 0 [y]) j) = .ok (.node 21 (textW ws i) 0 [y]) j3 from rfl]
        exact end_tree _ _ _ _ _ GP.out.rd hrb GP.out.step (by simp only [A.erase]; rw [HEL.out]; simp only [List.nil_append, erases]; rw [HZ.out]) t1 t2 (by omega)
  · rw [show want ws (i + 1) ⟨#[61]⟩ ((mExpr ws F (i + 2)).then_ fun y j => .ok (.node 21 (textW ws i) 0 [y]) j) = .no (i + 1) by unfold want; rw [if_neg h3]]
    have HA := mkHid h
    have hrb := h.lt
    have C0 := mkHid (fun w h => has_no rb a cap ws i sz ⟨#[114, 101, 97, 100]⟩ w h n0)
    have C1 := mkHid (fun w h => has_no rb a cap ws i sz ⟨#[99, 104, 101, 99, 107]⟩ w h n1)
    have C2 := mkHid (fun w h => has_no rb a cap ws i sz ⟨#[115, 107, 105, 112]⟩ w h n2)
    have C3 := mkHid (fun w h => has_no rb a cap ws i sz ⟨#[115, 116, 111, 112]⟩ w h n3)
    have C4 := mkHid (fun w h => name_yes rb a cap ws i sz w h h1)
    have C5 := mkHid (fun w h => has_no rb a cap ws (i + 1) sz ⟨#[91]⟩ w h h2)
    have C6 := mkHid (fun w h => take_no rb a cap ws (i + 1) sz ⟨#[61]⟩ w h (by simpa using h3))
    clear h h1 h2 h3 he hE n0 n1 n2 n3
    go_enter Tryz.func53, Tryz.ntmps53
    go_wp2_with fail
    refine (C0.out _ (HA.out.alloc _)).mono ?_
    rintro e w1 ⟨rfl, r, s⟩
    have R1 := mkHid r
    have S1 := mkHid (((Step.refl rb w).alloc _).trans s)
    have P1 := mkHid (s.at (heap_alloc_new w _) (by omega))
    clear r s
    go_wp2_with fail
    refine (C1.out _ R1.out).mono ?_
    rintro e w2 ⟨rfl, r, s⟩
    have R2 := mkHid r
    have S2 := mkHid (S1.out.trans s)
    have P2 := mkHid (s.at P1.out (by omega))
    clear r s
    go_wp2_with fail
    refine (C2.out _ R2.out).mono ?_
    rintro e w3 ⟨rfl, r, s⟩
    have R3 := mkHid r
    have S3 := mkHid (S2.out.trans s)
    have P3 := mkHid (s.at P2.out (by omega))
    clear r s
    go_wp2_with fail
    refine (C3.out _ R3.out).mono ?_
    rintro e w4 ⟨rfl, r, s⟩
    have R4 := mkHid r
    have S4 := mkHid (S3.out.trans s)
    have P4 := mkHid (s.at P3.out (by omega))
    clear r s
    go_wp2_with fail
    refine (C4.out _ R4.out).mono ?_
    rintro e w5 ⟨rfl, r, s⟩
    have R5 := mkHid r
    have S5 := mkHid (S4.out.trans s)
    have P5 := mkHid (s.at P4.out (by omega))
    clear r s
    go_wp2_with fail
    refine (C5.out _ (R5.out.alloc _)).mono ?_
    rintro e w6 ⟨rfl, r, s⟩
    have R6 := mkHid r
    have S6 := mkHid ((S5.out.alloc _).trans s)
    have P6 := mkHid (s.at ((Lib.alloc_old w5 _ _ (Array.getElem?_eq_some_iff.1 P5.out).1).trans P5.out) (by omega))
    have L6 := mkHid (s.at (heap_alloc_new w5 _) (by have := R5.out.lt; omega))
    have gl : rb < w5.heap.size := R5.out.lt
    clear r s
    go_wp2_with fail
    refine (C6.out _ R6.out).mono ?_
    rintro e w7 ⟨⟨m, rfl⟩, r, s⟩
    exact ⟨rfl, ⟨m, rfl⟩, r, S6.out.trans s⟩
end Go.Proofs.YtpebfdplapeejaaGreatDoor
