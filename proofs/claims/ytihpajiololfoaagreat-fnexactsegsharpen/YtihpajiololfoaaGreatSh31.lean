/-
  PURE: the specification's way of sharpening, step by step. MEMORY: what it has in the making.
-/
import Derived.Test.YtihpajiololfoaaGreatSh29
import Derived.Test.YtihpajiololfoaaGreatSh30
import Derived.Test.YtihpajiololfoaaGreatSh27
import Derived.Test.YtihpajiololfoaaGreatSh14
import Derived.Laws.OwnMore
namespace Go.Proofs.YtihpajiololfoaaGreat
open Go.RowKit

set_option maxHeartbeats 400000 in
theorem l09IsNone_any (v : VV) (w : World) : Calls Tryz.prog 82 #[.agg #[.int .i64 v.1, .int .i64 v.2.1, .bool v.2.2]] w fun e w' => e = .returned (.bool (noVB v)) ∧ Below w.heap.size w w' := by
  obtain ⟨a, b, s⟩ := v
  cases s
  · go_enter Tryz.func82, Tryz.ntmps82
    go_wp2
    go_ret
    exact ⟨rfl, (by repeat (first | with_reducible exact Below.refl _ _ | (with_reducible refine bl_set2 ?_ ?_ _; (first | (simp; done) | (simp [*]; done) | (simp [*] <;> omega))) | with_reducible refine bl_drew ?_ | with_reducible refine bl_alloc ?_ _ | with_reducible refine below_step ?_ (by assumption) | with_reducible assumption))⟩
  · go_enter Tryz.func82, Tryz.ntmps82
    go_wp2_with (go_at_call 106; refine (sIs_any _ _ _).mono ?_; rintro e w' ⟨rfl, hb⟩; (try rw [below_drew] at hb); obtain ⟨hc, hf, hm, hs⟩ := bcell4 hb; have hz0 : w.heap.size < w'.heap.size := (by have := hb.size; (try simp at this); omega); have hl0 := Nat.le_of_lt hz0)
    go_ret
    exact ⟨rfl, (by repeat (first | with_reducible exact Below.refl _ _ | (with_reducible refine bl_set2 ?_ ?_ _; (first | (simp; done) | (simp [*]; done) | (simp [*] <;> omega))) | with_reducible refine bl_drew ?_ | with_reducible refine bl_alloc ?_ _ | with_reducible refine below_step ?_ (by assumption) | with_reducible assumption))⟩
theorem news_b {w : World} {b o : Nat} {l : List Bool} (hq : ∀ (i : Nat) (x : Bool), l[i]? = some x → ∀ (j : Nat) (v : Value), (eB.enc x)[j]? = some v → w.cell? ⟨b, o + i * eB.k + j, none⟩ = some v) : ∀ (j : Nat) (u : Value), (eB.flat l)[j]? = some u → w.cell? ((⟨b, o, none⟩ : Addr).add j) = some u := by
  intro j u hu
  have hj : j < l.length * 1 := by have := (List.getElem?_eq_some_iff.1 hu).1; rw [El.flat_len] at this; exact this
  obtain ⟨x, hx⟩ : ∃ x, l[j]? = some x := ⟨_, List.getElem?_eq_getElem (by omega)⟩
  have h1 := eB.flat_get hx (j := 0) (by show 0 < 1; omega)
  have e : j * eB.k + 0 = j := by show j * 1 + 0 = j; omega
  rw [e, hu] at h1
  have h2 := hq j x hx 0 u h1.symm
  rw [Nat.add_assoc, e] at h2
  rw [Addr.add_lit]
  exact h2
theorem flat_oneB {l : List Bool} {u : Value} (hu : u ∈ eB.flat l) : u.oneCell' = true := by
  simp [El.flat, eB] at hu
  rcases hu with ⟨_, rfl⟩ | ⟨_, rfl⟩ <;> rfl
theorem append_b {ops : Array Oper} {rest : List Oper} {o : Oper} {a : Act} {Q : Exit → Act → World → Prop} (w : World) (hgd : o.guard = none) (s x : Operand)
    (ho : o.op = .call { callee := .builtin .append, args := #[s, x], argTypes := #[24, 24] }) (base : Nat) (g0 : Nat) (hs : a.eval s = .slice (some ⟨g0, 0, none⟩) 0 0) (hown : Own eB 4 w base (.slice (some ⟨g0, 0, none⟩) 0 0) [])
    (ax : Option Addr) (cx k : Nat) (m : List Bool) (hx : a.eval x = .slice ax k cx) (hk : m.length = k) (hm : At eB w ax m) (h63 : k ≤ 4194304) (hbase : base ≤ w.heap.size)
    (h : ∀ g cap w', Own eB 4 w' base (.slice (some ⟨g, 0, none⟩) k cap) m → w.grownBy w' (some g0) → wpList Tryz.prog ops Q rest (a.put o.dst (.slice (some ⟨g, 0, none⟩) k cap)) w') : wpList Tryz.prog ops Q (o :: rest) a w := by
  subst hk
  obtain ⟨ti, hti, hz⟩ := Option.map_eq_some_iff.1 infoM'
  simp only [Prod.mk.injEq] at hz
  obtain ⟨hz0, hz1, hz2⟩ := hz
  cases m with
  | nil =>
    refine wpList_append_zero w hgd s x 24 ho 4 ti Tryz.underlying24 hti (some ⟨g0, 0, none⟩) 0 0 (Nat.le_refl _) hs ax cx hx ?_
    exact h g0 0 w hown (grown_below (Below.refl _ _))
  | cons p m =>
    obtain ⟨b, off, rfl, _, hq⟩ := hm.cons (by simp)
    refine wpList_append_lies w hgd s x 24 ho base 4 ti (.bool false) 1 1 Tryz.underlying24 hti hz0 hz1 hz2 rfl (by decide) _ _ _ hs hown ⟨b, off, none⟩ _ cx (eB.flat (p :: m)) hx (El.flat_len _ _) (news_b hq) (fun u hu => flat_oneB hu) (by simp) (by simp only [List.length_nil]; unfold maxLen; omega) (by simp only [List.length_nil]; omega) hbase _ rfl ?_
    intro g cap w' h1 h2 _ _
    simp only [List.length_nil, Nat.zero_add] at h1 ⊢
    exact h g cap w' h1 h2
theorem fmB_get (f : Q.Tab) : ∀ {B : List (List Y)} {M : List Bool} {i : Nat} {b b' : List Y} {m : Bool}, B[i]? = some b → B[i + 1]? = some b' → M[i]? = some m → (fmB f B M)[i]? = some (m && !anyB f b b' 1)
  | [], _, i, _, _, _, h, _, _ => by simp at h
  | [_], _, i, _, _, _, _, h, _ => by simp at h
  | c :: c' :: B, [], i, _, _, _, _, _, h => by simp at h
  | c :: c' :: B, q :: M, i, b, b', m, h1, h2, h3 => by
    unfold fmB
    cases i with
    | zero =>
      simp at h1 h2 h3 ⊢
      rw [h1, h2, h3]
    | succ i =>
      simp only [List.getElem?_cons_succ] at h1 h3 ⊢
      exact fmB_get f h1 (by simpa using h2) h3
/-- What maybe is ahead of the i-th round. -/
def mkMb (f : Q.Tab) (B : List (List Y)) (M : List Bool) (i : Nat) : List Bool := (fmB f B M).take i ++ M.drop i
theorem mkMb_get {f : Q.Tab} {B : List (List Y)} {M : List Bool} {i : Nat} {m : Bool} (h : M[i]? = some m) : (mkMb f B M i)[i]? = some m := by
  have hi := (List.getElem?_eq_some_iff.1 h).1
  unfold mkMb
  rw [List.getElem?_append_right (by rw [List.length_take, fmB_len]; omega), List.length_take, fmB_len, List.getElem?_drop]
  rw [show i + (i - min i M.length) = i by omega]
  exact h
theorem mkMb_next {f : Q.Tab} {B : List (List Y)} {M : List Bool} {i : Nat} {b b' : List Y} {m : Bool} (h1 : B[i]? = some b) (h2 : B[i + 1]? = some b') (h3 : M[i]? = some m) : mkMb f B M (i + 1) = (mkMb f B M i).set i (m && !anyB f b b' 1) := by
  have hi := (List.getElem?_eq_some_iff.1 h3).1
  have hl : ((fmB f B M).take i).length = i := by rw [List.length_take, fmB_len]; omega
  unfold mkMb
  rw [List.take_add_one, fmB_get f h1 h2 h3, List.set_append_right _ _ (by omega), hl, Nat.sub_self, drop_at h3]
  simp
theorem mkMb_last {f : Q.Tab} {B : List (List Y)} {M : List Bool} : mkMb f B M M.length = fmB f B M := by
  unfold mkMb
  rw [List.take_of_length_le (by rw [fmB_len]; omega), List.drop_of_length_le (Nat.le_refl _), List.append_nil]
/-- The second loop's state against what is to come. -/
structure ShE (f : Q.Tab) (n : Nat) (S : SG) (FM : List Bool) (TS Z : SG) (P : List (List Y)) (cur : List Y) (i : Nat) : Prop where
  b : Z.B = P ++ [cur]
  eq : TS = ⟨P ++ (shR f cur (S.B.drop (i + 1)) (S.V.drop i) (FM.drop i)).1, Z.V ++ (shR f cur (S.B.drop (i + 1)) (S.V.drop i) (FM.drop i)).2.1, Z.M ++ (shR f cur (S.B.drop (i + 1)) (S.V.drop i) (FM.drop i)).2.2⟩
  tt : tot (cur :: S.B.drop (i + 1)) ≤ 1048576
  wd : ∀ x, x ∈ cur → Wd n x
  pl : P.length ≤ i
  vl : Z.V.length ≤ i
  ml : Z.M.length ≤ i
theorem ShE.first {f : Q.Tab} {n : Nat} {S : SG} {b0 : List Y} (h : S.B[0]? = some b0) (ht : tot S.B ≤ 1048576) (hw : Wds n S.B) : ShE f n S (fmB f S.B S.M) (shSG f S) ⟨[b0], [], []⟩ [] b0 0 := by
  have e : S.B = b0 :: S.B.drop 1 := by have := drop_at h; simpa using this
  refine ⟨rfl, ?_, ?_, hw b0 (List.mem_of_getElem? h), Nat.le_refl _, Nat.le_refl _, Nat.le_refl _⟩
  · unfold shSG
    rw [show S.B.headD [] = b0 by rw [e]; rfl, show S.B.tail = S.B.drop 1 by simp]
    simp
  · rw [← e]
    exact ht
section
variable {f : Q.Tab} {n : Nat} {S : SG} {FM : List Bool} {TS Z : SG} {P : List (List Y)} {cur b : List Y} {i : Nat} {v : VV} {m : Bool}
theorem ShE.fold (h : ShE f n S FM TS Z P cur i) (hb : S.B[i + 1]? = some b) (hv : S.V[i]? = some v) (hm : FM[i]? = some m) (hw : Wds n S.B) (hc : (m && (noVB v || anyB f b cur 0)) = true) {lm : List Y} (hlm : setY (cur ++ b) = lm) : ShE f n S FM TS ⟨Z.B.set P.length lm, Z.V, Z.M⟩ P lm (i + 1) := by
  subst hlm
  refine ⟨by show Z.B.set P.length _ = _; rw [h.b, List.set_append_right _ _ (Nat.le_refl _), Nat.sub_self]; rfl, ?_, ?_, fun x hx => ?_, Nat.le_succ_of_le h.pl, Nat.le_succ_of_le h.vl, Nat.le_succ_of_le h.ml⟩
  · have e := h.eq
    rw [drop_at hb, drop_at hv, drop_at hm, shR, if_pos hc] at e
    exact e
  · have e := h.tt
    have e2 := setY_len (cur ++ b)
    rw [List.length_append] at e2
    rw [drop_at hb] at e
    simp only [tot] at e ⊢
    omega
  · rcases List.mem_append.1 (((setY_set (cur ++ b)).mem x).1 hx) with h1 | h1
    · exact h.wd x h1
    · exact hw b (List.mem_of_getElem? hb) x h1
theorem ShE.keep (h : ShE f n S FM TS Z P cur i) (hb : S.B[i + 1]? = some b) (hv : S.V[i]? = some v) (hm : FM[i]? = some m) (hw : Wds n S.B) (hc : (m && (noVB v || anyB f b cur 0)) = false) : ShE f n S FM TS ⟨Z.B ++ [b], Z.V ++ [v], Z.M ++ [m]⟩ (P ++ [cur]) b (i + 1) := by
  refine ⟨by rw [← h.b], ?_, ?_, hw b (List.mem_of_getElem? hb), by have := h.pl; simp; omega, by have := h.vl; simp; omega, by have := h.ml; simp; omega⟩
  · have e := h.eq
    rw [drop_at hb, drop_at hv, drop_at hm, shR, if_neg (by rw [hc]; simp)] at e
    simpa using e
  · have e := h.tt
    rw [drop_at hb] at e
    simp only [tot] at e ⊢
    omega
theorem ShE.last (h : ShE f n S FM TS Z P cur i) (hi : FM.length ≤ i) : TS = Z := by
  have e := h.eq
  rw [List.drop_of_length_le hi] at e
  have e2 : shR f cur (S.B.drop (i + 1)) (S.V.drop i) [] = ([cur], [], []) := by unfold shR; split <;> simp_all
  rw [e2] at e
  rw [e, ← h.b]
  simp
end
/-- A row of rows of one's own: one of them is put anew. -/
theorem OwnYY.put {wr vb : World} {base g cap i : Nat} {ls : List (List Y)} {sl : Value} {T : List Y} (h : OwnYY wr base (.slice (some ⟨g, 0, none⟩) ls.length cap) ls) (hb : Below wr.heap.size wr vb) (hB : base ≤ wr.heap.size) (ho : Own eY 49 vb wr.heap.size sl T) :
    OwnYY (vb.setCell ⟨g, i, none⟩ sl) base (.slice (some ⟨g, 0, none⟩) ls.length cap) (ls.set i T) := by
  obtain ⟨vs, h1, h2⟩ := h
  have h3 := (World.ownsRow.stored (owns_below h1 hb) i sl).1
  obtain ⟨cur, hg⟩ := owns_block (owns_below h1 hb) (q := g) rfl
  have hK : ∀ {v : Value} {l : List Y}, Own eY 49 vb base v l → Own eY 49 (vb.setCell ⟨g, i, none⟩ sl) base v l := fun h => h.keptT (Only.set vb g i sl) (fun q c e => by cases e; exact not_typ ⟨_, hg⟩ (by decide) c)
  refine ⟨vs.set i sl, by rw [List.length_set]; exact h3, by simp [h2.1], fun j v l hv hl => ?_, fun j k v u q hv hu h4 h5 => ?_⟩
  · rw [List.getElem?_set] at hv hl
    by_cases e : i = j
    · rw [if_pos e] at hv hl
      split at hv
      · split at hl
        · cases hv; cases hl; exact hK (ho.mono hB)
        · cases hl
      · cases hv
    · rw [if_neg e] at hv hl
      exact hK ((h2.2.1 j v l hv hl).below hb)
  · rw [List.getElem?_set] at hv hu
    by_cases e1 : i = j
    · by_cases e2 : i = k
      · omega
      · rw [if_pos e1] at hv
        rw [if_neg e2] at hu
        split at hv
        · cases hv
          have := (ho.lt h4).1
          have := (h2.lt hu h5).2
          omega
        · cases hv
    · by_cases e2 : i = k
      · rw [if_neg e1] at hv
        rw [if_pos e2] at hu
        split at hu
        · cases hu
          have := (ho.lt h5).1
          have := (h2.lt hv h4).2
          omega
        · cases hu
      · rw [if_neg e1] at hv
        rw [if_neg e2] at hu
        exact h2.2.2 j k v u q hv hu h4 h5
structure ShI (w wr : World) (base X1 X2 X3 Bx : Nat) (A0 : SAd) (S : SG) (fa : Array Value) (gm : Nat) (FM : List Bool) (A : SAd) (Z : SG) : Prop where
  g : GrowS wr base Bx A Z
  x1 : wr.heap[X1]? = some (.cells (sgC A0 S) 35 (0, 0))
  x2 : wr.heap[X2]? = some (.cells (sgC noA noS) 35 (0, 0))
  x3 : wr.heap[X3]? = some (.cells fa 38 (0, 0))
  mb : ∀ (k : Nat) (m : Bool), FM[k]? = some m → wr.cell? ⟨gm, k, none⟩ = some (.bool m)
  bel : Below w.heap.size w wr
  bs : base ≤ wr.heap.size
structure ShC (w : World) (base X1 X2 X3 Bx gm : Nat) : Prop where
  x1 : X1 < base ∧ X1 ≠ Bx
  x2 : w.heap.size ≤ X2 ∧ X2 < base ∧ X2 ≠ Bx
  x3 : X3 < base ∧ X3 ≠ Bx
  gm : gm < base ∧ gm ≠ Bx
  wb : w.heap.size ≤ base
  bx : w.heap.size ≤ Bx
section
variable {w wr va : World} {base X1 X2 X3 Bx gm : Nat} {A0 A A' : SAd} {S Z Z' : SG} {fa : Array Value} {FM : List Bool}
theorem ShI.grow (h : ShI w wr base X1 X2 X3 Bx A0 S fa gm FM A Z) (c : ShC w base X1 X2 X3 Bx gm) (hg : GrowS va base Bx A' Z') (hk : Kp base Bx wr va) : ShI w va base X1 X2 X3 Bx A0 S fa gm FM A' Z' :=
  ⟨hg, (hk.block X1 c.x1.1 c.x1.2).trans h.x1, (hk.block X2 c.x2.2.1 c.x2.2.2).trans h.x2, (hk.block X3 c.x3.1 c.x3.2).trans h.x3, fun k m hm => (World.cell?_of_block (a := ⟨gm, k, none⟩) (hk.block gm c.gm.1 c.gm.2)).trans (h.mb k m hm), Kp.below h.bel hk c.wb c.bx, Nat.le_trans h.bs hk.size⟩
theorem ShI.below (h : ShI w wr base X1 X2 X3 Bx A0 S fa gm FM A Z) (c : ShC w base X1 X2 X3 Bx gm) (hb : Below wr.heap.size wr va) : ShI w va base X1 X2 X3 Bx A0 S fa gm FM A Z :=
  h.grow c (h.g.below hb) (Kp.step (Kp.refl _ _ _) hb h.bs)
theorem ShI.put {vb : World} {g i : Nat} {sl : Value} {T : List Y} (h : ShI w wr base X1 X2 X3 Bx A0 S fa gm FM A Z) (c : ShC w base X1 X2 X3 Bx gm) (hA : A.a0 = some ⟨g, 0, none⟩) (hb : Below wr.heap.size wr vb) (ho : Own eY 49 vb wr.heap.size sl T) : ShI w (vb.setCell ⟨g, i, none⟩ sl) base X1 X2 X3 Bx A0 S fa gm FM A ⟨Z.B.set i T, Z.V, Z.M⟩ := by
  have hB := h.g.b
  rw [hA] at hB
  obtain ⟨cur, hg⟩ : ∃ cur, vb.heap[g]? = some (.cells cur 113 (0, 0)) := by obtain ⟨vs, h1, _⟩ := hB; exact owns_block (owns_below h1 hb) (q := g) rfl
  have hlo : base ≤ g := by obtain ⟨vs, h1, _⟩ := hB; exact (World.ownsRow.lt h1 g rfl).1
  have hO := Only.set vb g i sl
  have hk := h.below c hb
  have hne : g ≠ Bx := fun e => by have := hk.g.box; rw [← e, hg] at this; simp at this
  have hbl : ∀ k, k < base → (vb.setCell ⟨g, i, none⟩ sl).heap[k]? = vb.heap[k]? := fun k hkb => Below.heap_setCell vb ⟨g, i, none⟩ sl k (by show k ≠ g; omega)
  refine hk.grow c ⟨?_, ?_, hk.g.v.keptT hO (fun q c e => by cases e; exact not_typ ⟨_, hg⟩ (by decide) c), hk.g.m.keptT hO (fun q c e => by cases e; exact not_typ ⟨_, hg⟩ (by decide) c)⟩ ⟨hO.os, hO.tape, hO.output, hO.size, fun k hkb _ => hbl k hkb⟩
  · rw [Below.heap_setCell vb ⟨g, i, none⟩ sl Bx (fun e => hne e.symm), hk.g.box]
    simp [sgC]
  · have := hB.put (i := i) hb h.bs ho
    rw [hA, List.length_set]
    exact this
end
end Go.Proofs.YtihpajiololfoaaGreat
