/-
  CONTRACTS of toEdge, toEdgeS, toGraph: the same graph in new memory.
-/
import Derived.Test.YtpikgigfeifliaaDoorGr
namespace Go.Proofs.YtpikgigfeifliaaDoor
open Go.RowKit

def EdAt0 (w : World) (lo : Nat) (e : Ed) (b off : Nat) : Prop :=
  w.cell? ⟨b, off, none⟩ = some (.int .i64 e.f) ∧ w.cell? ⟨b, off + 1, none⟩ = some (.int .i64 e.t) ∧ w.cell? ⟨b, off + 2, none⟩ = some (.int .i64 e.k) ∧ w.cell? ⟨b, off + 3, none⟩ = some (.bool e.y) ∧ Lies0 w lo e.n b (off + 4)
def Kids0G (w : World) (lo : Nat) (a : Option Addr) (es : List Ed) : Prop := es = [] ∨ ∃ b', a = some ⟨b', 0, none⟩ ∧ lo ≤ b' ∧ (∀ o, w.frozen? ⟨b', o, none⟩ = false) ∧ ∀ i e, es[i]? = some e → EdAt0 w (b' + 1) e b' (i * 8)
theorem EdAt0.stay {w w' : World} {lo : Nat} (h : ∀ b o, lo ≤ b → b < w.heap.size → w'.cell? ⟨b, o, none⟩ = w.cell? ⟨b, o, none⟩ ∧ w'.frozen? ⟨b, o, none⟩ = w.frozen? ⟨b, o, none⟩) {e : Ed} {b off : Nat} (hb : ∀ o, off ≤ o → o < off + 8 → w'.cell? ⟨b, o, none⟩ = w.cell? ⟨b, o, none⟩) (hl : EdAt0 w lo e b off) : EdAt0 w' lo e b off := by
  obtain ⟨h0, h1, h2, h3, h4⟩ := hl
  exact ⟨(hb _ (by omega) (by omega)).trans h0, (hb _ (by omega) (by omega)).trans h1, (hb _ (by omega) (by omega)).trans h2, (hb _ (by omega) (by omega)).trans h3, Lies0.stay h _ _ _ (fun o h5 h6 => hb o (by omega) (by omega)) h4⟩
theorem EdAt0.plain {w : World} {lo : Nat} {e : Ed} {b off : Nat} (hl : EdAt0 w lo e b off) : EdAt w lo e b off := by
  obtain ⟨h0, h1, h2, h3, h4⟩ := hl
  exact ⟨h0, h1, h2, h3, Lies0.plain _ _ _ h4⟩
theorem Kids0G.plain {w : World} {lo : Nat} {a : Option Addr} {es : List Ed} (hk : Kids0G w lo a es) : KidsG w lo a es := by
  rcases hk with hk | ⟨b', e, hlo, hf, hk⟩
  · exact .inl hk
  · exact .inr ⟨b', 0, e, hlo, fun i x hx => by rw [Nat.zero_add]; exact (hk i x hx).plain.lower (by omega)⟩
theorem Kids0G.lower {w : World} {lo lo' : Nat} (h : lo' ≤ lo) {a : Option Addr} {es : List Ed} (hk : Kids0G w lo a es) : Kids0G w lo' a es := by
  rcases hk with hk | ⟨b', e, hlo, hf, hk⟩
  · exact .inl hk
  · exact .inr ⟨b', e, Nat.le_trans h hlo, hf, hk⟩
theorem Kids0G.stay {w w' : World} {lo : Nat} (h : ∀ b o, lo ≤ b → b < w.heap.size → w'.cell? ⟨b, o, none⟩ = w.cell? ⟨b, o, none⟩ ∧ w'.frozen? ⟨b, o, none⟩ = w.frozen? ⟨b, o, none⟩) {a : Option Addr} {es : List Ed} (hk : Kids0G w lo a es) : Kids0G w' lo a es := by
  rcases hk with hk | ⟨b', e, hlo, hf, hk⟩
  · exact .inl hk
  · cases hes : es with
    | nil => exact .inl rfl
    | cons x r =>
      have hb' : b' < w.heap.size := World.block_lt_of_cell? w _ (hk 0 x (by rw [hes]; rfl)).1
      rw [← hes]
      exact .inr ⟨b', e, hlo, fun o => (h b' o hlo hb').2.trans (hf o), fun i x hx => (hk i x hx).stay (fun b o hb h1 => h b o (by omega) h1) (fun o _ _ => (h b' o hlo hb').1)⟩
theorem Kids0G.below {w w' : World} {lo : Nat} {a : Option Addr} {es : List Ed} (hk : Kids0G w lo a es) (hb : Below w.heap.size w w') : Kids0G w' lo a es := hk.stay fun b o _ h => below_both hb b o h

set_option maxHeartbeats 1600000 in
theorem toEdge_ok (f t k : Int) (y : Bool) (nk : Int) (s : ByteArray) (m : Int) (kk : List T) (a : Option Addr) (c : Nat) (w : World) (hn : bulk (.node nk s m kk) ≤ 1048576) (hk : Kids w 0 a kk) :
    Calls Tryd.prog 24 #[.agg #[.int .i64 f, .int .i64 t, .int .i64 k, .bool y, .int .i64 nk, .string s, .int .i64 m, .slice a kk.length c]] w fun e w' =>
      (∃ a' c', e = .returned (.agg #[.int .i64 f, .int .i64 t, .int .i64 k, .bool y, .int .i64 nk, .string s, .int .i64 m, .slice a' kk.length c']) ∧ Kids0 w' w.heap.size a' kk ∧ kk.length ≤ c' ∧ c' ≤ maxLen) ∧ Below w.heap.size w w' := by
  have HN := mkHid hn
  have HK := mkHid hk
  clear hn hk
  go_enter Tryd.func24, Tryd.ntmps24
  go_wp2_with fail
  refine (toNode_ok (.node nk s m kk) a c _ HN.out (HK.out.below ?_)).mono ?_
  · exact (((Below.refl w.heap.size w).alloc (Nat.le_refl _) _).alloc (by simp) _).alloc (by simp; omega) _
  rintro e w1 ⟨⟨a', c', rfl, hk', hcap⟩, hb1⟩
  have HCP := mkHid hcap
  clear hcap
  obtain ⟨hc, hf⟩ := bcell hb1
  have HK' := mkHid (hk'.lower (lo' := w.heap.size + 3) (by simp))
  have HB := mkHid (below_step ((((Below.refl w.heap.size w).alloc (Nat.le_refl _) _).alloc (by simp) _).alloc (by simp; omega) _) hb1)
  clear hk' hb1
  have c0 := (hc (w.heap.size + 1 + 1) 0 (by simp)).trans (show _ = some (Value.int .i64 f) by simp [go_sem])
  have c1 := (hc (w.heap.size + 1 + 1) 1 (by simp)).trans (show _ = some (Value.int .i64 t) by simp [go_sem])
  have c2 := (hc (w.heap.size + 1 + 1) 2 (by simp)).trans (show _ = some (Value.int .i64 k) by simp [go_sem])
  have c3 := (hc (w.heap.size + 1 + 1) 3 (by simp)).trans (show _ = some (Value.bool y) by simp [go_sem])
  have c4 := (hc (w.heap.size + 1 + 1) 4 (by simp)).trans (show _ = some (Value.int .i64 0) by simp [go_sem])
  have f4 := (hf (w.heap.size + 1 + 1) 4 (by simp)).trans (show _ = false by simp [go_sem])
  have c5 := (hc (w.heap.size + 1 + 1) 5 (by simp)).trans (show _ = some (Value.string ⟨#[]⟩) by simp [go_sem])
  have f5 := (hf (w.heap.size + 1 + 1) 5 (by simp)).trans (show _ = false by simp [go_sem])
  have c6 := (hc (w.heap.size + 1 + 1) 6 (by simp)).trans (show _ = some (Value.int .i64 0) by simp [go_sem])
  have f6 := (hf (w.heap.size + 1 + 1) 6 (by simp)).trans (show _ = false by simp [go_sem])
  have c7 := (hc (w.heap.size + 1 + 1) 7 (by simp)).trans (show _ = some (Value.slice none 0 0) by simp [go_sem])
  have f7 := (hf (w.heap.size + 1 + 1) 7 (by simp)).trans (show _ = false by simp [go_sem])
  have d0 := (hc (w.heap.size + 1) 0 (by simp)).trans (show _ = some (Value.int .i64 0) by simp [go_sem])
  have g0 := (hf (w.heap.size + 1) 0 (by simp)).trans (show _ = false by simp [go_sem])
  have d1 := (hc (w.heap.size + 1) 1 (by simp)).trans (show _ = some (Value.int .i64 0) by simp [go_sem])
  have g1 := (hf (w.heap.size + 1) 1 (by simp)).trans (show _ = false by simp [go_sem])
  have d2 := (hc (w.heap.size + 1) 2 (by simp)).trans (show _ = some (Value.int .i64 0) by simp [go_sem])
  have g2 := (hf (w.heap.size + 1) 2 (by simp)).trans (show _ = false by simp [go_sem])
  have d3 := (hc (w.heap.size + 1) 3 (by simp)).trans (show _ = some (Value.bool false) by simp [go_sem])
  have g3 := (hf (w.heap.size + 1) 3 (by simp)).trans (show _ = false by simp [go_sem])
  have d4 := (hc (w.heap.size + 1) 4 (by simp)).trans (show _ = some (Value.int .i64 0) by simp [go_sem])
  have g4 := (hf (w.heap.size + 1) 4 (by simp)).trans (show _ = false by simp [go_sem])
  have d5 := (hc (w.heap.size + 1) 5 (by simp)).trans (show _ = some (Value.string ⟨#[]⟩) by simp [go_sem])
  have g5 := (hf (w.heap.size + 1) 5 (by simp)).trans (show _ = false by simp [go_sem])
  have d6 := (hc (w.heap.size + 1) 6 (by simp)).trans (show _ = some (Value.int .i64 0) by simp [go_sem])
  have g6 := (hf (w.heap.size + 1) 6 (by simp)).trans (show _ = false by simp [go_sem])
  have d7 := (hc (w.heap.size + 1) 7 (by simp)).trans (show _ = some (Value.slice none 0 0) by simp [go_sem])
  have g7 := (hf (w.heap.size + 1) 7 (by simp)).trans (show _ = false by simp [go_sem])
  clear hc hf
  go_wp2
  refine bodyPost_ret (v := .agg #[.int .i64 f, .int .i64 t, .int .i64 k, .bool y, .int .i64 nk, .string s, .int .i64 m, .slice a' kk.length c']) (by simp [results, Tryd.results24, go_sem, d0, d1, d2, d3, d4, d5, d6, d7]) rfl ⟨⟨a', c', rfl, ?_, HCP.out⟩, ?_⟩
  · refine (HK'.out.stay fun b o hb _ => ⟨?_, by simp⟩).lower (by omega)
    rw [World.cell?_setCell_far _ _ _ _ (by simp; omega), World.cell?_setCell_far _ _ _ _ (by simp; omega), World.cell?_setCell_far _ _ _ _ (by simp; omega), World.cell?_setCell_far _ _ _ _ (by simp; omega), World.cell?_setCell_far _ _ _ _ (by simp; omega), World.cell?_setCell_far _ _ _ _ (by simp; omega), World.cell?_setCell_far _ _ _ _ (by simp; omega), World.cell?_setCell_far _ _ _ _ (by simp; omega), World.cell?_setCell_far _ _ _ _ (by simp; omega), World.cell?_setCell_far _ _ _ _ (by simp; omega), World.cell?_setCell_far _ _ _ _ (by simp; omega), World.cell?_setCell_far _ _ _ _ (by simp; omega)]
  · exact ((((((((((((HB.out.setCell (p := ⟨w.heap.size + 1 + 1, 4, none⟩) (by simp; omega) _).setCell (p := ⟨w.heap.size + 1 + 1, 5, none⟩) (by simp; omega) _).setCell (p := ⟨w.heap.size + 1 + 1, 6, none⟩) (by simp; omega) _).setCell (p := ⟨w.heap.size + 1 + 1, 7, none⟩) (by simp; omega) _).setCell (p := ⟨w.heap.size + 1, 0, none⟩) (by simp) _).setCell (p := ⟨w.heap.size + 1, 1, none⟩) (by simp) _).setCell (p := ⟨w.heap.size + 1, 2, none⟩) (by simp) _).setCell (p := ⟨w.heap.size + 1, 3, none⟩) (by simp) _).setCell (p := ⟨w.heap.size + 1, 4, none⟩) (by simp) _).setCell (p := ⟨w.heap.size + 1, 5, none⟩) (by simp) _).setCell (p := ⟨w.heap.size + 1, 6, none⟩) (by simp) _).setCell (p := ⟨w.heap.size + 1, 7, none⟩) (by simp) _)
end Go.Proofs.YtpikgigfeifliaaDoor
