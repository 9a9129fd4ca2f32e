/-
  CONTRACTS of markEdgeS and markGraph.
-/
import Derived.Test.YtpikgigfeifliaaMkn
import Derived.Test.YtpikgigfeifliaaGcq
namespace Go.Proofs.Ytpikgigfeifliaa
open Go.RowKit

def kidsN : T → List T
  | .node _ _ _ kk => kk
def ecnt : List Ed → Nat
  | [] => 0
  | e :: r => 7 + 3 * cnts (kidsN e.n) + ecnt r
theorem ecnt_take {ks : List Ed} {i : Nat} {t : Ed} (h : ks[i]? = some t) : ecnt (ks.take (i + 1)) = ecnt (ks.take i) + (7 + 3 * cnts (kidsN t.n)) := by
  induction ks generalizing i with
  | nil => simp at h
  | cons x r ih =>
    cases i with
    | zero => simp at h; subst h; simp [ecnt]
    | succ i =>
      simp at h
      have := ih h
      simp only [List.take_succ_cons, ecnt] at this ⊢
      omega
theorem ecnt_le (l : List Ed) : ∀ n, ecnt (l.take n) ≤ ecnt l := by
  induction l with
  | nil => intro n; simp [ecnt]
  | cons x r ih => intro n; cases n with
    | zero => simp [ecnt]
    | succ n => simp only [List.take_succ_cons, ecnt]; have := ih n; omega
mutual
theorem cnt_bulk : ∀ t : T, cnt t ≤ bulk t + 1
  | .node k s m kk => by simp only [cnt, bulk]; have := cnts_bulk kk; omega
theorem cnts_bulk : ∀ l : List T, cnts l ≤ bulks l + l.length
  | [] => by simp [cnts]
  | t :: r => by simp only [cnts, bulks, List.length_cons]; have := cnt_bulk t; have := cnts_bulk r; omega
end
theorem ecnt_bulk (l : List Ed) : ecnt l ≤ 7 * l.length + 3 * ebulk l := by
  induction l with
  | nil => simp [ecnt]
  | cons x r ih =>
    obtain ⟨f, t, k, y, ⟨nk, ns, nm, kk⟩⟩ := x
    simp only [ecnt, ebulk, List.length_cons, kidsN, bulk]
    have := cnts_bulk kk
    omega
def Heads (b : Nat) (w w' : World) : Prop := ∀ o, o % 8 = 7 → w'.cell? ⟨b, o, none⟩ = w.cell? ⟨b, o, none⟩
theorem Heads.refl (b : Nat) (w : World) : Heads b w w := fun _ _ => rfl
theorem Heads.trans {b : Nat} {u v w : World} (h : Heads b u v) (k : Heads b v w) : Heads b u w := fun o ho => (k o ho).trans (h o ho)
theorem Heads.of_below {b : Nat} {u v : World} (h : Below u.heap.size u v) (hb : b < u.heap.size) : Heads b u v := fun o _ => h.cell (p := ⟨b, o, none⟩) hb
theorem Heads.setCell {b : Nat} {u v : World} (h : Heads b u v) {o : Nat} (ho : o % 8 ≠ 7) (x : Value) : Heads b u (v.setCell ⟨b, o, none⟩ x) := fun j hj => by
  rw [World.cell?_setCell_other _ _ _ _ (fun e => by injection e with e1 e2; omega)]
  exact h j hj
theorem Heads.of_wrote {b hi : Nat} {u v : World} (h : Wrote 0 (b + 1) hi u v) (hb : b < u.heap.size) : Heads b u v := fun o _ => World.cell?_of_block (w := u) (h.block b hb (by omega))
/-- What the marks of a list of edges want. -/
def MkG (w : World) (hi : Nat) (es : List Ed) (b : Nat) : Prop := ∀ i e, es[i]? = some e → (∃ v, w.cell? ⟨b, i * 8, none⟩ = some v) ∧ (∃ v, w.cell? ⟨b, i * 8 + 1, none⟩ = some v) ∧ (∃ v, w.cell? ⟨b, i * 8 + 2, none⟩ = some v) ∧ (∃ v, w.cell? ⟨b, i * 8 + 3, none⟩ = some v) ∧
  (∃ v, w.cell? ⟨b, i * 8 + 4, none⟩ = some v) ∧ (∃ v, w.cell? ⟨b, i * 8 + 5, none⟩ = some v) ∧ (∃ v, w.cell? ⟨b, i * 8 + 6, none⟩ = some v) ∧ ∃ (a : Option Addr) (c : Nat), w.cell? ⟨b, i * 8 + 7, none⟩ = some (.slice a (kidsN e.n).length c) ∧ MkK w (b + 1) hi a (kidsN e.n)
def MkGK (w : World) (lo hi : Nat) (a : Option Addr) (es : List Ed) : Prop := es = [] ∨ ∃ b', a = some ⟨b', 0, none⟩ ∧ lo ≤ b' ∧ b' < hi ∧ (∀ o, w.frozen? ⟨b', o, none⟩ = false) ∧ MkG w hi es b'
theorem MkG.stay {w w' : World} {hi b lo' hi' : Nat} {es : List Ed} (h : Wrote (b + 1) lo' hi' w w') (hh : Heads b w w') (hl : MkG w hi es b) : MkG w' hi es b := fun i e he => by
  obtain ⟨h0, h1, h2, h3, h4, h5, h6, a, c, h7, hk⟩ := hl i e he
  have hb : b < w.heap.size := World.block_lt_of_cell? w _ h7
  exact ⟨h.there _ _ hb h0, h.there _ _ hb h1, h.there _ _ hb h2, h.there _ _ hb h3, h.there _ _ hb h4, h.there _ _ hb h5, h.there _ _ hb h6, a, c, (hh _ (by omega)).trans h7, hk.stay h (Nat.le_refl _)⟩
theorem MkGK.below {w w' : World} {lo hi : Nat} {a : Option Addr} {es : List Ed} (h : Below w.heap.size w w') (hl : MkGK w lo hi a es) : MkGK w' lo hi a es := by
  rcases hl with hk | ⟨b', e, hlo, hhi, hf, hk⟩
  · exact .inl hk
  · cases hes : es with
    | nil => exact .inl rfl
    | cons x r =>
      have hb : b' < w.heap.size := by
        obtain ⟨⟨v, hv⟩, _⟩ := hk 0 x (by rw [hes]; rfl)
        exact World.block_lt_of_cell? w _ hv
      rw [← hes]
      exact .inr ⟨b', e, hlo, hhi, fun o => (h.frozen (p := ⟨b', o, none⟩) hb).trans (hf o), hk.stay (lo' := 0) (hi' := 0) (Wrote.of_below h) (Heads.of_below h hb)⟩
theorem Kids0G.mk {w : World} {lo : Nat} {a : Option Addr} {es : List Ed} (hk : Kids0G w lo a es) : MkGK w lo w.heap.size a es := by
  rcases hk with hk | ⟨b', e, hlo, hf, hk⟩
  · exact .inl hk
  · cases hes : es with
    | nil => exact .inl rfl
    | cons x r =>
      have hb : b' < w.heap.size := World.block_lt_of_cell? w _ (hk 0 x (by rw [hes]; rfl)).1
      rw [← hes]
      refine .inr ⟨b', e, hlo, hb, hf, fun i e he => ?_⟩
      obtain ⟨h0, h1, h2, h3, h4⟩ := hk i e he
      obtain ⟨f, t, k, y, ⟨nk, ns, nm, kk⟩⟩ := e
      unfold Lies0 at h4
      obtain ⟨g0, g1, g2, hs, hn, a, c, g3, hc1, hc2, hk⟩ := h4
      exact ⟨⟨_, h0⟩, ⟨_, h1⟩, ⟨_, h2⟩, ⟨_, h3⟩, ⟨_, g0⟩, ⟨_, g1⟩, ⟨_, g2⟩, a, c, g3, Kids0.mk hk⟩

set_option maxHeartbeats 1600000 in
theorem markEdgeS_of (es : List Ed) (hi b c : Nat) (k0 : Int) (w : World) (hhi : b < hi) (hf : ∀ o, w.frozen? ⟨b, o, none⟩ = false) (hl : MkG w hi es b) (h1 : 1 ≤ k0) (h2 : k0 + ecnt es ≤ 9000000) :
    Calls Try.prog 30 #[.slice (some ⟨b, 0, none⟩) es.length c, .int .i64 k0] w fun e w' => e = .returned (.int .i64 (k0 + ecnt es)) ∧ Wrote (b + 1) b hi w w' := by
  have HL := mkHid hl
  have HF := mkHid hf
  have H2 := mkHid h2
  have hlen : es.length ≤ 9000000 := by
    have : ∀ l : List Ed, l.length ≤ ecnt l := by
      intro l
      induction l with
      | nil => simp [ecnt]
      | cons x r ih => simp only [ecnt, List.length_cons]; omega
    have := this es
    omega
  clear hl hf h2
  go_enter Try.func30, Try.ntmps30
  go_wp2
  go_loopw [1, 5] (fun kv i w' => ∃ (j : Nat) (x : Int), j ≤ es.length ∧ i = .int .i64 j ∧ kv = .int .i64 x ∧ x = k0 + ecnt (es.take j) ∧ Wrote (b + 1) b hi w w' ∧ Heads b w w') (fun _ i _ => es.length - (intOf i).toNat)
  case atStart => exact ⟨0, _, Nat.zero_le _, rfl, rfl, by simp [ecnt], Wrote.refl _ _ _ _, Heads.refl _ _⟩
  case round =>
    obtain ⟨j, x, hj, rfl, rfl, hx, hw, hh⟩ := hrel
    have HW := mkHid hw
    have HH := mkHid hh
    have HX := mkHid hx
    clear hw hx hh
    by_cases hlt : j < es.length
    · obtain ⟨t, ht⟩ : ∃ t, es[j]? = some t := ⟨_, List.getElem?_eq_getElem hlt⟩
      have HT := mkHid ht
      obtain ⟨⟨v0, c0⟩, ⟨v1, c1⟩, ⟨v2, c2⟩, ⟨v3, c3⟩, ⟨v4, c4⟩, hv5, hv6, ta, tc, c7, hk7⟩ := (MkG.stay HW.out HH.out HL.out) j t ht
      have HV := mkHid (And.intro hv5 (And.intro hv6 (And.intro c7 hk7)))
      have hb : b < wr.heap.size := World.block_lt_of_cell? wr _ c0
      have hbw : b < w.heap.size := by
        obtain ⟨⟨v, hv⟩, _⟩ := HL.out j t ht
        exact World.block_lt_of_cell? w _ hv
      have FR := mkHid fun o => (HW.out.frozen b o hbw).trans (HF.out o)
      have f0 := FR.out (j * 8)
      have f1 := FR.out (j * 8 + 1)
      have f2 := FR.out (j * 8 + 2)
      have f3 := FR.out (j * 8 + 3)
      have f4 := FR.out (j * 8 + 4)
      have hcn := ecnt_take ht
      have hle := ecnt_le es (j + 1)
      have hx9 : 1 ≤ x ∧ x + 7 + 3 * cnts (kidsN t.n) ≤ 9000000 := by have := HX.out; have := H2.out; omega
      obtain ⟨hx1, hx2⟩ := hx9
      have HCN := mkHid hcn
      obtain ⟨kk, hkk⟩ : ∃ kk, kk = kidsN t.n := ⟨_, rfl⟩
      rw [← hkk] at hx2
      have HKK := mkHid hkk
      have HV : Hid ((∃ v, wr.cell? ⟨b, j * 8 + 5, none⟩ = some v) ∧ (∃ v, wr.cell? ⟨b, j * 8 + 6, none⟩ = some v) ∧ wr.cell? ⟨b, j * 8 + 7, none⟩ = some (.slice ta kk.length tc) ∧ MkK wr (b + 1) hi ta kk) := by rw [hkk]; exact HV
      clear ht hv5 hv6 c7 hk7 hcn hle hbw hkk
      go_wp2_with fail
      refine (markText_int _ (x + 5).toNat (by omega) _ (by omega) (by omega)).mono ?_
      rintro e w1 ⟨rfl, hb1⟩
      obtain ⟨u, hu⟩ : ∃ u, u = mtI (x + 5).toNat := ⟨_, rfl⟩
      rw [← hu]
      clear hu
      have W1 := mkHid ((((((((Wrote.refl (b + 1) b hi wr).setCell (g := b) (o := j * 8) (Nat.le_refl _) hhi (.inl (Nat.lt_succ_self _)) _).setCell (g := b) (o := j * 8 + 1) (Nat.le_refl _) hhi (.inl (Nat.lt_succ_self _)) _).setCell (g := b) (o := j * 8 + 2) (Nat.le_refl _) hhi (.inl (Nat.lt_succ_self _)) _).setCell (g := b) (o := j * 8 + 3) (Nat.le_refl _) hhi (.inl (Nat.lt_succ_self _)) _).setCell (g := b) (o := j * 8 + 4) (Nat.le_refl _) hhi (.inl (Nat.lt_succ_self _)) _)).trans (Wrote.of_below hb1))
      have G1 := mkHid (((((((Heads.refl b wr).setCell (o := j * 8) (by omega) _).setCell (o := j * 8 + 1) (by omega) _).setCell (o := j * 8 + 2) (by omega) _).setCell (o := j * 8 + 3) (by omega) _).setCell (o := j * 8 + 4) (by omega) _).trans (Heads.of_below hb1 (by simp only [World.setCell, Array.size_modify]; exact hb)))
      obtain ⟨v5, c5⟩ := W1.out.there _ _ hb HV.out.1
      obtain ⟨v6, c6⟩ := W1.out.there _ _ hb HV.out.2.1
      have c7 := (G1.out _ (show (j * 8 + 7) % 8 = 7 by omega)).trans HV.out.2.2.1
      have f5 := (W1.out.frozen b (j * 8 + 5) hb).trans (FR.out _)
      have f6 := (W1.out.frozen b (j * 8 + 6) hb).trans (FR.out _)
      have hb' : b < w1.heap.size := World.block_lt_of_cell? w1 _ c5
      have W3 := mkHid ((W1.out.setCell (g := b) (o := j * 8 + 5) (Nat.le_refl _) hhi (.inl (Nat.lt_succ_self _)) (.string u)).setCell (g := b) (o := j * 8 + 6) (Nat.le_refl _) hhi (.inl (Nat.lt_succ_self _)) (.int .i64 (x + 1 + 1 + 1 + 1 + 1 + 1)))
      have G3 := mkHid ((G1.out.setCell (o := j * 8 + 5) (by omega) (.string u)).setCell (o := j * 8 + 6) (by omega) (.int .i64 (x + 1 + 1 + 1 + 1 + 1 + 1)))
      have HC := mkHid (markNodeS_ok (.node 0 ⟨#[]⟩ 0 kk) (b + 1) hi ta tc (x + 1 + 1 + 1 + 1 + 1 + 1 + 1) _ (HV.out.2.2.2.stay W3.out (Nat.le_refl _)) (by omega) (by omega))
      clear hb1 c0 f0 c1 f1 c2 f2 c3 f3 c4 f4
      go_wp2_with fail
      refine HC.out.mono ?_
      rintro e w4 ⟨rfl, hw4⟩
      have W4 := mkHid ((HW.out.trans W3.out).trans (hw4.wide (by omega) (by omega) (Nat.le_refl _)))
      have G4 := mkHid ((HH.out.trans G3.out).trans (Heads.of_wrote hw4 (by simp only [World.setCell, Array.size_modify]; exact hb')))
      obtain ⟨x', hx'⟩ : ∃ x', x' = x + 1 + 1 + 1 + 1 + 1 + 1 + 1 + 3 * (cnts kk : Int) := ⟨_, rfl⟩
      rw [← hx']
      have HX' := mkHid hx'
      clear hw4 hx' c5 c6 c7 f5 f6
      go_wp2
      go_roundw
      case rel => exact ⟨j + 1, x', by omega, by go_num, rfl, by have := HX'.out; have := HX.out; have h5 := HCN.out; rw [← HKK.out] at h5; omega, W4.out, G4.out⟩
      case measure => simp [intOf]; omega
    · go_wp2
      go_ret
      have h3 := HX.out
      rw [List.take_of_length_le (by omega)] at h3
      exact ⟨ret_int h3, HW.out⟩
set_option maxHeartbeats 400000 in
theorem markEdgeS_nil (a : Option Addr) (c : Nat) (k0 : Int) (w : World) :
    Calls Try.prog 30 #[.slice a 0 c, .int .i64 k0] w fun e w' => e = .returned (.int .i64 k0) ∧ w' = w := by
  go_enter Try.func30, Try.ntmps30
  go_wp2
  go_loopw [1, 5] (fun kv i w' => i = .int .i64 0 ∧ kv = .int .i64 k0 ∧ w' = w) (fun _ i _ => 0)
  case atStart => exact ⟨rfl, rfl, rfl⟩
  case round =>
    obtain ⟨rfl, rfl, rfl⟩ := hrel
    go_wp2
    go_ret
    exact ⟨rfl, rfl⟩
/-- Nothing outside the blocks from lo on, ahead of hi, is turned. -/
structure Outs (lo hi : Nat) (w w' : World) : Prop where
  os : w'.os = w.os
  tape : w'.tape = w.tape
  output : w'.output = w.output
  size : w.heap.size ≤ w'.heap.size
  block : ∀ b, b < w.heap.size → ¬ (lo ≤ b ∧ b < hi) → w'.heap[b]? = w.heap[b]?
set_option maxHeartbeats 800000 in
theorem markGraph_ok (p : Int) (es : List Ed) (lo hi : Nat) (a : Option Addr) (c : Nat) (w : World) (hl : MkGK w lo hi a es) (h2 : es.length + ebulk es ≤ 1048576) :
    Calls Try.prog 14 #[.agg #[.int .i64 p, .slice a es.length c], .int .i64 1] w fun e w' => (∃ r : Int, e = .returned (.int .i64 r) ∧ 0 ≤ r) ∧ Outs lo hi w w' := by
  have hle := ecnt_bulk es
  have HC : ∀ w1 : World, MkGK w1 lo hi a es → Calls Try.prog 30 #[.slice a es.length c, .int .i64 1] w1 fun e w' => e = .returned (.int .i64 (1 + ecnt es)) ∧ Outs lo hi w1 w' := by
    intro w1 h
    rcases h with rfl | ⟨b, rfl, hlo, hhi, hf, hk⟩
    · refine (markEdgeS_nil a c 1 w1).mono ?_
      rintro e w' ⟨rfl, rfl⟩
      exact ⟨by simp [ecnt], ⟨rfl, rfl, rfl, Nat.le_refl _, fun _ _ _ => rfl⟩⟩
    · refine (markEdgeS_of es hi b c 1 w1 hhi hf hk (by omega) (by omega)).mono ?_
      rintro e w' ⟨rfl, h⟩
      exact ⟨rfl, ⟨h.os, h.tape, h.output, h.size, fun i h1 h2 => h.block i h1 (by omega)⟩⟩
  have HC := mkHid HC
  have HK := mkHid hl
  have B0 := mkHid ((Below.refl w.heap.size w).alloc (Nat.le_refl _) (.cells #[.int .i64 p, .slice a es.length c] 29))
  clear hl
  go_enter Try.func14, Try.ntmps14
  go_wp2_with fail
  refine (HC.out _ (HK.out.below B0.out)).mono ?_
  rintro e w1 ⟨rfl, ho⟩
  have HO : Hid (Outs lo hi w w1) := ⟨ho.os.trans B0.out.os, ho.tape.trans B0.out.tape, ho.output.trans B0.out.output, Nat.le_trans B0.out.size ho.size, fun i h1 h2 => (ho.block i (Nat.lt_of_lt_of_le h1 B0.out.size) h2).trans (B0.out.block i h1)⟩
  have hx : (0 : Int) ≤ 1 + ecnt es := by omega
  clear ho
  go_wp2
  go_ret
  exact ⟨⟨_, rfl, hx⟩, HO.out⟩
end Go.Proofs.Ytpikgigfeifliaa
