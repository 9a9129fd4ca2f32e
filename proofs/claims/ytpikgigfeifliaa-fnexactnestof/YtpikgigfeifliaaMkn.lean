/-
  THE MARKS THAT A LAW WRITES INTO A COPY: what must lie there so that they can be written, what they leave alone; CONTRACT of markNodeS.
-/
import Derived.Test.YtpikgigfeifliaaMt
import Derived.Test.YtpikgigfeifliaaOwn
namespace Go.Proofs.Ytpikgigfeifliaa
open Go.RowKit

mutual
def Mk (w : World) (lo hi : Nat) : T → Nat → Nat → Prop
  | .node _ _ _ kk, b, off => (∃ v, w.cell? ⟨b, off, none⟩ = some v) ∧ (∃ v, w.cell? ⟨b, off + 1, none⟩ = some v) ∧ (∃ v, w.cell? ⟨b, off + 2, none⟩ = some v) ∧
    ∃ (a : Option Addr) (c : Nat), w.cell? ⟨b, off + 3, none⟩ = some (.slice a kk.length c) ∧
    (kk = [] ∨ ∃ b', a = some ⟨b', 0, none⟩ ∧ lo ≤ b' ∧ b' < hi ∧ (∀ o, w.frozen? ⟨b', o, none⟩ = false) ∧ MkL w lo hi kk b' 0)
def MkL (w : World) (lo hi : Nat) : List T → Nat → Nat → Prop
  | [], _, _ => True
  | t :: r, b, off => Mk w lo hi t b off ∧ MkL w lo hi r b (off + 4)
end
def MkK (w : World) (lo hi : Nat) (a : Option Addr) (kk : List T) : Prop := kk = [] ∨ ∃ b', a = some ⟨b', 0, none⟩ ∧ lo ≤ b' ∧ b' < hi ∧ (∀ o, w.frozen? ⟨b', o, none⟩ = false) ∧ MkL w lo hi kk b' 0
/-- Only blocks from lo on, ahead of hi, and new ones are written, in blocks from L on no cell that holds a slice. -/
structure Wrote (L lo hi : Nat) (w w' : World) : Prop where
  os : w'.os = w.os
  tape : w'.tape = w.tape
  output : w'.output = w.output
  size : w.heap.size ≤ w'.heap.size
  block : ∀ b, b < w.heap.size → ¬ (lo ≤ b ∧ b < hi) → w'.heap[b]? = w.heap[b]?
  kept : ∀ b o, L ≤ b → b < w.heap.size → o % 4 = 3 → w'.cell? ⟨b, o, none⟩ = w.cell? ⟨b, o, none⟩
  there : ∀ b o, b < w.heap.size → (∃ v, w.cell? ⟨b, o, none⟩ = some v) → ∃ v, w'.cell? ⟨b, o, none⟩ = some v
  frozen : ∀ b o, b < w.heap.size → w'.frozen? ⟨b, o, none⟩ = w.frozen? ⟨b, o, none⟩
theorem Wrote.refl (L lo hi : Nat) (w : World) : Wrote L lo hi w w := ⟨rfl, rfl, rfl, Nat.le_refl _, fun _ _ _ => rfl, fun _ _ _ _ _ => rfl, fun _ _ _ h => h, fun _ _ _ => rfl⟩
theorem Wrote.trans {L lo hi : Nat} {a b c : World} (h : Wrote L lo hi a b) (k : Wrote L lo hi b c) : Wrote L lo hi a c :=
  ⟨k.os.trans h.os, k.tape.trans h.tape, k.output.trans h.output, Nat.le_trans h.size k.size, fun i hi hn => (k.block i (Nat.lt_of_lt_of_le hi h.size) hn).trans (h.block i hi hn),
    fun i o hL hi ho => (k.kept i o hL (Nat.lt_of_lt_of_le hi h.size) ho).trans (h.kept i o hL hi ho), fun i o hi hv => k.there i o (Nat.lt_of_lt_of_le hi h.size) (h.there i o hi hv), fun i o hi => (k.frozen i o (Nat.lt_of_lt_of_le hi h.size)).trans (h.frozen i o hi)⟩
theorem Wrote.of_below {L lo hi : Nat} {a b : World} (h : Below a.heap.size a b) : Wrote L lo hi a b :=
  ⟨h.os, h.tape, h.output, h.size, fun i hi _ => h.block i hi, fun i o _ hi _ => h.cell (p := ⟨i, o, none⟩) hi, fun i o hi ⟨v, hv⟩ => ⟨v, (h.cell (p := ⟨i, o, none⟩) hi).trans hv⟩, fun i o hi => h.frozen (p := ⟨i, o, none⟩) hi⟩
theorem Wrote.setCell {L lo hi : Nat} {a b : World} (h : Wrote L lo hi a b) {g o : Nat} (h1 : lo ≤ g) (h2 : g < hi) (ho : g < L ∨ o % 4 ≠ 3) (u : Value) : Wrote L lo hi a (b.setCell ⟨g, o, none⟩ u) :=
  ⟨h.os, h.tape, h.output, by simp only [World.setCell, Array.size_modify]; exact h.size, fun k hk hn => by
      rw [Below.heap_setCell _ _ _ _ (fun e => hn (by subst e; exact ⟨h1, h2⟩))]
      exact h.block k hk hn,
    fun i j hL hi hj => by
      rw [World.cell?_setCell_other _ _ _ _ (fun e => by injection e with e1 e2; omega)]
      exact h.kept i j hL hi hj,
    fun i j hi hv => by
      obtain ⟨v, hv⟩ := h.there i j hi hv
      exact cell?_setCell_some hv,
    fun i j hi => by
      have : (b.setCell ⟨g, o, none⟩ u).frozen? ⟨i, j, none⟩ = b.frozen? ⟨i, j, none⟩ := by simp
      exact this.trans (h.frozen i j hi)⟩
theorem Wrote.wide {L lo hi L' lo' hi' : Nat} {a b : World} (h : Wrote L lo hi a b) (h1 : L ≤ L') (h2 : lo' ≤ lo) (h3 : hi ≤ hi') : Wrote L' lo' hi' a b :=
  ⟨h.os, h.tape, h.output, h.size, fun i hi hn => h.block i hi (by omega), fun i o hL hi ho => h.kept i o (by omega) hi ho, h.there, h.frozen⟩
mutual
theorem Mk.stay {w w' : World} {L lo hi l' h' : Nat} (h : Wrote L l' h' w w') (hL : L ≤ lo) : ∀ (t : T) (b off : Nat), L ≤ b → off % 4 = 0 → Mk w lo hi t b off → Mk w' lo hi t b off
  | .node k s m kk, b, off, hbL, ho, hl => by
    unfold Mk at hl ⊢
    obtain ⟨h0, h1, h2, a, c, h3, hk⟩ := hl
    have hb : b < w.heap.size := World.block_lt_of_cell? w _ h3
    refine ⟨h.there _ _ hb h0, h.there _ _ hb h1, h.there _ _ hb h2, a, c, (h.kept _ _ hbL hb (by omega)).trans h3, ?_⟩
    rcases hk with hk | ⟨b', e, hlo, hhi, hf, hk⟩
    · exact .inl hk
    · cases hkk : kk with
      | nil => exact .inl rfl
      | cons x r =>
        have hb' : b' < w.heap.size := by
          rw [hkk] at hk
          cases x
          unfold MkL Mk at hk
          obtain ⟨⟨⟨v, hv⟩, _⟩, _⟩ := hk
          exact World.block_lt_of_cell? w _ hv
        rw [← hkk]
        exact .inr ⟨b', e, hlo, hhi, fun o => (h.frozen b' o hb').trans (hf o), MkL.stay h hL kk b' 0 (by omega) rfl hk⟩
theorem MkL.stay {w w' : World} {L lo hi l' h' : Nat} (h : Wrote L l' h' w w') (hL : L ≤ lo) : ∀ (ks : List T) (b off : Nat), L ≤ b → off % 4 = 0 → MkL w lo hi ks b off → MkL w' lo hi ks b off
  | [], _, _, _, _, _ => by unfold MkL; trivial
  | t :: r, b, off, hbL, ho, hl => by
    unfold MkL at hl ⊢
    exact ⟨Mk.stay h hL t b off hbL ho hl.1, MkL.stay h hL r b (off + 4) hbL (by omega) hl.2⟩
end
theorem MkL.get {w : World} {lo hi b : Nat} : ∀ {ks : List T} {off i : Nat} {t : T}, MkL w lo hi ks b off → ks[i]? = some t → Mk w lo hi t b (off + i * 4)
  | [], _, _, _, _, h => by simp at h
  | x :: r, off, 0, t, h, ht => by
    simp at ht
    subst ht
    unfold MkL at h
    simpa using h.1
  | x :: r, off, i + 1, t, h, ht => by
    unfold MkL at h
    simp at ht
    have := MkL.get h.2 ht
    rwa [show off + 4 + i * 4 = off + (i + 1) * 4 by omega] at this
theorem MkK.stay {w w' : World} {L lo hi l' h' : Nat} (h : Wrote L l' h' w w') (hL : L ≤ lo) {a : Option Addr} {kk : List T} (hl : MkK w lo hi a kk) : MkK w' lo hi a kk := by
  rcases hl with hk | ⟨b', e, hlo, hhi, hf, hk⟩
  · exact .inl hk
  · cases hkk : kk with
    | nil => exact .inl rfl
    | cons x r =>
      have hb' : b' < w.heap.size := by
        rw [hkk] at hk
        cases x
        unfold MkL Mk at hk
        obtain ⟨⟨⟨v, hv⟩, _⟩, _⟩ := hk
        exact World.block_lt_of_cell? w _ hv
      rw [← hkk]
      exact .inr ⟨b', e, hlo, hhi, fun o => (h.frozen b' o hb').trans (hf o), MkL.stay h hL kk b' 0 (by omega) rfl hk⟩
mutual
theorem Lies0.mk {w : World} {lo : Nat} : ∀ (t : T) (b off : Nat), Lies0 w lo t b off → Mk w lo w.heap.size t b off
  | .node k s m kk, b, off, hl => by
    unfold Lies0 at hl
    unfold Mk
    obtain ⟨h0, h1, h2, hs, hn, a, c, h3, hc1, hc2, hk⟩ := hl
    refine ⟨⟨_, h0⟩, ⟨_, h1⟩, ⟨_, h2⟩, a, c, h3, ?_⟩
    rcases hk with hk | ⟨b', e, hlo, hf, hk⟩
    · exact .inl hk
    · cases hkk : kk with
      | nil => exact .inl rfl
      | cons x r =>
        have hb' : b' < w.heap.size := by
          rw [hkk] at hk
          unfold Lies0L at hk
          exact hk.1.lt
        rw [← hkk]
        exact .inr ⟨b', e, hlo, hb', hf, Lies0L.mk kk b' 0 hk⟩
theorem Lies0L.mk {w : World} {lo : Nat} : ∀ (ks : List T) (b off : Nat), Lies0L w lo ks b off → MkL w lo w.heap.size ks b off
  | [], _, _, _ => by unfold MkL; trivial
  | t :: r, b, off, hl => by
    unfold Lies0L at hl
    unfold MkL
    exact ⟨Lies0.mk t b off hl.1, Lies0L.mk r b (off + 4) hl.2⟩
end
theorem Kids0.mk {w : World} {lo : Nat} {a : Option Addr} {kk : List T} (hk : Kids0 w lo a kk) : MkK w lo w.heap.size a kk := by
  rcases hk with hk | ⟨b', e, hlo, hf, hk⟩
  · exact .inl hk
  · cases hkk : kk with
    | nil => exact .inl rfl
    | cons x r =>
      have hb' : b' < w.heap.size := by
        rw [hkk] at hk
        unfold Lies0L at hk
        exact hk.1.lt
      rw [← hkk]
      exact .inr ⟨b', e, hlo, hb', hf, Lies0L.mk kk b' 0 hk⟩
theorem markText_int (x : Int) (k : Nat) (hx : x = k) (w : World) (h0 : 1 ≤ k) (h1 : k ≤ 10000000) : Calls Try.prog 35 #[.int .i64 x] w fun e w' => e = .returned (.string (mtI k)) ∧ Below w.heap.size w w' := by
  subst hx; exact markText_any k w h0 h1
theorem ret_int {k : IntKind} {a b : Int} (h : a = b) : Ending.returned (.int k a) = .returned (.int k b) := by rw [h]
def MarkOk (t : T) : Prop := match t with
  | .node _ _ _ kk => ∀ (lo hi : Nat) (a : Option Addr) (c : Nat) (k : Int) (w : World), MkK w lo hi a kk → 1 ≤ k → k + 3 * cnts kk ≤ 9000000 →
    Calls Try.prog 36 #[.slice a kk.length c, .int .i64 k] w fun e w' => e = .returned (.int .i64 (k + 3 * cnts kk)) ∧ Wrote 0 lo hi w w'

set_option maxHeartbeats 1000000 in
theorem markNodeS_of (kk : List T) (IH : ∀ t ∈ kk, MarkOk t) (lo hi b c : Nat) (k0 : Int) (w : World) (hlo : lo ≤ b) (hhi : b < hi) (hf : ∀ o, w.frozen? ⟨b, o, none⟩ = false) (hl : MkL w lo hi kk b 0) (h1 : 1 ≤ k0) (h2 : k0 + 3 * cnts kk ≤ 9000000) :
    Calls Try.prog 36 #[.slice (some ⟨b, 0, none⟩) kk.length c, .int .i64 k0] w fun e w' => e = .returned (.int .i64 (k0 + 3 * cnts kk)) ∧ Wrote 0 lo hi w w' := by
  have HL := mkHid hl
  have HF := mkHid hf
  have HI := mkHid IH
  have H2 := mkHid h2
  have hlen : kk.length ≤ 9000000 := by
    have : ∀ l : List T, l.length ≤ cnts l := by
      intro l
      induction l with
      | nil => simp [cnts]
      | cons x r ih => cases x; simp only [cnts, cnt, List.length_cons]; omega
    have := this kk
    omega
  clear hl hf IH h2
  go_enter Try.func36, Try.ntmps36
  go_wp2
  go_loopw [1, 5] (fun kv i w' => ∃ (j : Nat) (x : Int), j ≤ kk.length ∧ i = .int .i64 j ∧ kv = .int .i64 x ∧ x = k0 + 3 * cnts (kk.take j) ∧ Wrote 0 lo hi w w') (fun _ i _ => kk.length - (intOf i).toNat)
  case atStart => exact ⟨0, _, Nat.zero_le _, rfl, rfl, by simp [cnts], Wrote.refl _ _ _ _⟩
  case round =>
    obtain ⟨j, x, hj, rfl, rfl, hx, hw⟩ := hrel
    have HW := mkHid hw
    have HX := mkHid hx
    clear hw hx
    by_cases hlt : j < kk.length
    · obtain ⟨t, ht⟩ : ∃ t, kk[j]? = some t := ⟨_, List.getElem?_eq_getElem hlt⟩
      obtain ⟨tk, ts, tm, tkk⟩ := t
      have HT := mkHid ht
      have ml := (MkL.stay HW.out (Nat.zero_le _) kk b 0 (Nat.zero_le _) rfl HL.out).get ht
      rw [Nat.zero_add] at ml
      unfold Mk at ml
      obtain ⟨⟨v0, c0⟩, hv1, hv2, ta, tc, c3, hk3⟩ := ml
      have HV := mkHid (And.intro hv1 (And.intro hv2 (And.intro c3 (show MkK wr lo hi ta tkk from hk3))))
      have hb : b < wr.heap.size := World.block_lt_of_cell? wr _ c0
      have hbw : b < w.heap.size := by
        have h := HL.out.get ht
        unfold Mk at h
        obtain ⟨⟨v, hv⟩, _⟩ := h
        exact World.block_lt_of_cell? w _ hv
      have FR := mkHid fun o => (HW.out.frozen b o hbw).trans (HF.out o)
      have f0 := FR.out (j * 4)
      have hcn := cnts_take ht
      simp only [cnt] at hcn
      have hle : cnts (kk.take (j + 1)) ≤ cnts kk := by
        have : ∀ (l : List T) (n : Nat), cnts (l.take n) ≤ cnts l := by
          intro l
          induction l with
          | nil => intro n; simp [cnts]
          | cons x r ih => intro n; cases n with
            | zero => simp [cnts]
            | succ n => simp only [List.take_succ_cons, cnts]; have := ih n; omega
        exact this _ _
      have hx9 : 1 ≤ x ∧ x + 3 + 3 * cnts tkk ≤ 9000000 := by have := HX.out; have := H2.out; omega
      obtain ⟨hx1, hx2⟩ := hx9
      have HCN := mkHid hcn
      clear ht hv1 hv2 c3 hk3 hcn hle hbw
      go_wp2_with fail
      refine (markText_int _ (x + 1).toNat (by omega) _ (by omega) (by omega)).mono ?_
      rintro e w1 ⟨rfl, hb1⟩
      obtain ⟨u, hu⟩ : ∃ u, u = mtI (x + 1).toNat := ⟨_, rfl⟩
      rw [← hu]
      clear hu
      have W1 := mkHid ((((Wrote.refl 0 lo hi wr).setCell (g := b) (o := j * 4) hlo hhi (.inr (by omega)) (.int .i64 x))).trans (Wrote.of_below hb1))
      obtain ⟨v1, c1⟩ := W1.out.there _ _ hb HV.out.1
      obtain ⟨v2, c2⟩ := W1.out.there _ _ hb HV.out.2.1
      have c3 := (W1.out.kept _ _ (Nat.zero_le _) hb (show (j * 4 + 3) % 4 = 3 by omega)).trans HV.out.2.2.1
      have f1 := (W1.out.frozen b (j * 4 + 1) hb).trans (FR.out _)
      have f2 := (W1.out.frozen b (j * 4 + 2) hb).trans (FR.out _)
      have W3 := mkHid ((W1.out.setCell (g := b) (o := j * 4 + 1) hlo hhi (.inr (by omega)) (.string u)).setCell (g := b) (o := j * 4 + 2) hlo hhi (.inr (by omega)) (.int .i64 (x + 1 + 1)))
      have HC := mkHid (HI.out _ (List.mem_of_getElem? HT.out) lo hi ta tc (x + 1 + 1 + 1) _ (HV.out.2.2.2.stay W3.out (Nat.zero_le _)) (by omega) (by omega))
      clear hb1 c0 f0
      go_wp2_with fail
      refine HC.out.mono ?_
      rintro e w4 ⟨rfl, hw4⟩
      have W4 := mkHid ((HW.out.trans W3.out).trans hw4)
      obtain ⟨x', hx'⟩ : ∃ x', x' = x + 1 + 1 + 1 + 3 * (cnts tkk : Int) := ⟨_, rfl⟩
      rw [← hx']
      have HX' := mkHid hx'
      clear hw4 hx' c1 c2 c3 f1 f2
      go_wp2
      go_roundw
      case rel => exact ⟨j + 1, x', by omega, by go_num, rfl, by have := HX'.out; have := HX.out; have := HCN.out; omega, W4.out⟩
      case measure => simp [intOf]; omega
    · go_wp2
      go_ret
      have h3 := HX.out
      rw [List.take_of_length_le (by omega)] at h3
      exact ⟨ret_int h3, HW.out⟩
set_option maxHeartbeats 400000 in
theorem markNodeS_nil (a : Option Addr) (c : Nat) (k0 : Int) (w : World) :
    Calls Try.prog 36 #[.slice a 0 c, .int .i64 k0] w fun e w' => e = .returned (.int .i64 k0) ∧ w' = w := by
  go_enter Try.func36, Try.ntmps36
  go_wp2
  go_loopw [1, 5] (fun kv i w' => i = .int .i64 0 ∧ kv = .int .i64 k0 ∧ w' = w) (fun _ i _ => 0)
  case atStart => exact ⟨rfl, rfl, rfl⟩
  case round =>
    obtain ⟨rfl, rfl, rfl⟩ := hrel
    go_wp2
    go_ret
    exact ⟨rfl, rfl⟩
theorem markNodeS_ok (t : T) : MarkOk t := by
  refine T.induct ?_ t
  intro k s m kk IH lo hi a c k0 w hl h1 h2
  rcases hl with rfl | ⟨b, rfl, hlo, hhi, hf, hl⟩
  · refine (markNodeS_nil a c k0 w).mono ?_
    rintro e w' ⟨rfl, rfl⟩
    exact ⟨ret_int (by simp [cnts]), Wrote.refl _ _ _ _⟩
  · exact markNodeS_of kk IH lo hi b c k0 w hlo hhi hf hl h1 h2
end Go.Proofs.Ytpikgigfeifliaa
