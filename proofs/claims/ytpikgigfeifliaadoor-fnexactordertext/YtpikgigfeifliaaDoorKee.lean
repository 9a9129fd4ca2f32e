/-
  WHAT A WRITING INTO A BUILDER KEEPS; the marks of ranges over a function; isHead.
-/
import Derived.Test.YtpikgigfeifliaaDoorArn
namespace Go.Proofs.YtpikgigfeifliaaDoor
open Go.RowKit

/-- All blocks below n1 lie as they lay, but for the builder's at b and rows of bytes. -/
def Keep (b n1 : Nat) (W W' : World) : Prop := W'.os = W.os ∧ W'.tape = W.tape ∧ W'.output = W.output ∧ W.heap.size ≤ W'.heap.size ∧ ∀ (k : Nat) (o : Obj), k < n1 → k ≠ b → W.heap[k]? = some o → (∀ c fz, o ≠ .cells c 5 fz) → W'.heap[k]? = some o
theorem Keep.refl (b n1 : Nat) (W : World) : Keep b n1 W W := ⟨rfl, rfl, rfl, Nat.le_refl _, fun _ _ _ _ h _ => h⟩
theorem Keep.trans {b n1 : Nat} {W W' W'' : World} (h : Keep b n1 W W') (h' : Keep b n1 W' W'') : Keep b n1 W W'' :=
  ⟨h'.1.trans h.1, h'.2.1.trans h.2.1, h'.2.2.1.trans h.2.2.1, Nat.le_trans h.2.2.2.1 h'.2.2.2.1, fun k o h1 h2 h3 h4 => h'.2.2.2.2 k o h1 h2 (h.2.2.2.2 k o h1 h2 h3 h4) h4⟩
theorem Keep.mono {b n1 n2 : Nat} {W W' : World} (h : Keep b n1 W W') (hn : n2 ≤ n1) : Keep b n2 W W' :=
  ⟨h.1, h.2.1, h.2.2.1, h.2.2.2.1, fun k o h1 h2 h3 h4 => h.2.2.2.2 k o (Nat.lt_of_lt_of_le h1 hn) h2 h3 h4⟩
theorem Keep.of_others {b n1 B : Nat} {W W' : World} (hb : Below B W W') (hk : Lib.OthersKept 5 (some b) W W') : Keep b n1 W W' :=
  ⟨hb.os, hb.tape, hb.output, hb.size, fun k o _ h2 h3 h4 => hk k o h3 (fun e => h2 (by simpa using e)) h4⟩
theorem Keep.of_below {b n1 n : Nat} {W W' : World} (hb : Below n W W') (hn : n1 ≤ n) : Keep b n1 W W' :=
  ⟨hb.os, hb.tape, hb.output, hb.size, fun k o h1 _ h3 _ => (hb.block k (by omega)).trans h3⟩
theorem Keep.put {b n1 : Nat} {W : World} {l : Nat} {o' : Obj} (h1 : n1 ≤ l) : Keep b n1 W (W.putObj l o') :=
  ⟨rfl, rfl, rfl, by simp [World.putObj], fun k o h2 _ h3 _ => (World.putObj_heap_other (by omega)).trans h3⟩
theorem Keep.at {b n1 : Nat} {W W' : World} (h : Keep b n1 W W') {k : Nat} {cs : Array Value} {t : TypeId} (hk : W.heap[k]? = some (.cells cs t (0, 0))) (ht : t ≠ 5) (h1 : k < n1) (h2 : k ≠ b) : W'.heap[k]? = some (.cells cs t (0, 0)) :=
  h.2.2.2.2 k _ h1 h2 hk (fun c fz e => ht (by simp at e; exact e.2.1))
theorem Keep.deferred {b n1 : Nat} {W W' : World} (h : Keep b n1 W W') {k : Nat} {x : Option (List Deferred)} (hk : W.heap[k]? = some (.deferred x)) (h1 : k < n1) (h2 : k ≠ b) : W'.heap[k]? = some (.deferred x) :=
  h.2.2.2.2 k _ h1 h2 hk (fun c fz e => by simp at e)
theorem keep_own {β : Type} {b n1 : Nat} {w0 : World} : OwnFrom n1 (fun (_ : β) W => Keep b n1 w0 W) := fun _ W _ row hs hg hr =>
  hs.trans ⟨hg.os, hg.tape, hg.output, hg.size, fun k o h1 _ h3 _ => (hg.block k (Array.getElem?_eq_some_iff.1 h3).1 (fun e => by have := (hr k e.symm).1; omega)).trans h3⟩
theorem builder_kept {B b : Nat} {bs : List Value} {W W' : World} {row : Option Nat} (h : Lib.IsBuilderF 42 5 B b bs W) (hg : W.grownBy W' row) (hr : ∀ r, row = some r → ∃ o : Obj, W.heap[r]? = some o ∧ o.isCells = false) : Lib.IsBuilderF 42 5 B b bs W' := by
  have one : ∀ p, Lib.BuilderAtF 42 5 B b p bs W → Lib.BuilderAtF 42 5 B b p bs W' := fun p hp => by
    have hlt := hp.lt
    obtain ⟨hB, v, hbk, hown, hne⟩ := hp
    refine ⟨hB, v, (hg.block b hlt fun e => ?_).trans hbk, hown.kept hg ?_, hne⟩
    · obtain ⟨o, ho, hc⟩ := hr b e.symm
      rw [hbk] at ho; cases ho; cases hc
    · rcases hown.2 with ⟨rfl, _⟩ | ⟨g, cap, cur, fz, rfl, _, hgb, _⟩
      · exact .inl rfl
      · refine .inr fun e => ?_
        obtain ⟨o, ho, hc⟩ := hr g (by simpa [Value.ownBlock] using e.symm)
        rw [hgb] at ho; cases ho; cases hc
  exact h.elim (fun x => .inl (one _ x)) (fun x => .inr (one _ x))
theorem builder_below {B b : Nat} {bs : List Value} {w w' : World} (h : Lib.IsBuilderF 42 5 B b bs w) (hb : Below w.heap.size w w') : Lib.IsBuilderF 42 5 B b bs w' :=
  builder_kept (row := none) h ⟨hb.os, hb.tape, hb.output, hb.size, fun k hk _ => hb.block k hk⟩ (fun r e => by cases e)
theorem builder_own {β : Type} (B b : Nat) (f : β → List Value) : Own (fun s W => Lib.IsBuilderF 42 5 B b (f s) W) := fun _ _ _ _ hs hg hr => builder_kept hs hg hr
theorem builder_lt {B b : Nat} {bs : List Value} {w : World} (h : Lib.IsBuilderF 42 5 B b bs w) : b < w.heap.size := h.elim (·.lt) (·.lt)
theorem keeps_others {b B N : Nat} {W W' : World} (hb : Below B W W') (hk : Lib.OthersKept 5 (some b) W W') (hB : b < N) : KeepsFrom N W W' :=
  ⟨hb.size, fun k o h1 h2 h3 => hk k o h2 (fun e => by simp at e; omega) (fun c fz e => by subst e; cases h3)⟩
/-- The mark of a block for deferred calls. -/
def markD (D : Nat) : Deferred := { target := .collected D, args := #[] }
theorem leaves_marks {F : Fence} {n : Nat} {P : Program} {fn : Func} {tmps : Array Value} {R : Ending → World → Prop} {n1 : Nat} (Pr : World → Prop)
    (hP : ∀ W D, Pr W → W.heap[D]? = some (.deferred (some [])) → n1 ≤ D → Pr (W.putObj D (.deferred none)))
    (hend : ∀ W, Pr W → LeavesInM F n P fn tmps R [] .returning W) : ∀ (Ds : List Nat) (W : World), Ds.Nodup → (∀ D ∈ Ds, n1 ≤ D ∧ W.heap[D]? = some (.deferred (some []))) → Pr W →
      LeavesInM F n P fn tmps R (Ds.map markD) .returning W
  | [], W, _, _, h => hend W h
  | D :: Ds, W, hn, hd, h => by
    obtain ⟨h1, h2⟩ := hd D (List.mem_cons_self ..)
    obtain ⟨hn1, hn2⟩ := List.nodup_cons.1 hn
    refine ⟨by simp, .inl ⟨D, _, rfl, run_takeDeferred h2, leaves_marks Pr hP hend Ds _ hn2 (fun D' h' => ?_) (hP W D h h2 h1)⟩⟩
    obtain ⟨k1, k2⟩ := hd D' (List.mem_cons_of_mem _ h')
    exact ⟨k1, (World.putObj_heap_other (fun e => hn1 (by subst e; exact h'))).trans k2⟩
theorem ret_bool' {a b : Bool} (h : a = b) : Ending.returned (.bool a) = .returned (.bool b) := by rw [h]
set_option maxHeartbeats 400000 in
theorem isHead_yes (n c g o k : Nat) (x : Int) (w : World) (hk : (k : Int) < n) (hc : w.cell? ⟨g, o + k, none⟩ = some (.int .i64 x)) (hx : 0 ≤ x) :
    Calls Tryd.prog 16 #[.slice (some ⟨g, o, none⟩) n c, .int .i64 k] w fun e w' => e = .returned (.bool true) ∧ w = w' := by
  go_enter Tryd.func16, Tryd.ntmps16
  go_wp2
  go_ret
  exact ⟨ret_bool' (by simp), rfl⟩
set_option maxHeartbeats 400000 in
theorem isHead_no (n c g o k : Nat) (x : Int) (w : World) (hk : (k : Int) < n) (hc : w.cell? ⟨g, o + k, none⟩ = some (.int .i64 x)) (hx : ¬ 0 ≤ x) :
    Calls Tryd.prog 16 #[.slice (some ⟨g, o, none⟩) n c, .int .i64 k] w fun e w' => e = .returned (.bool false) ∧ w = w' := by
  go_enter Tryd.func16, Tryd.ntmps16
  go_wp2
  go_ret
  exact ⟨ret_bool' (by simp), rfl⟩
end Go.Proofs.YtpikgigfeifliaaDoor
