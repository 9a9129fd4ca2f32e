/-
  ROWS OF ROWS of cells; CONTRACTS of the law's toCellSS, szCellSS, eqCellSS.
-/
import Derived.Test.YtaekcmbjcfpigaaTc
namespace Go.Proofs.Ytaekcmbjcfpigaa
open Go.RowKit

/-- The inner rows of a row of rows: each is of our own, no two share a block. -/
def Inn (w : World) (base : Nat) (vs : List Value) (ls : List (List CC)) : Prop :=
  vs.length = ls.length ∧ (∀ (i : Nat) (v : Value) (l : List CC), vs[i]? = some v → ls[i]? = some l → Own eC 60 w base v l) ∧
  (∀ (i j : Nat) (v u : Value) (q : Nat), vs[i]? = some v → vs[j]? = some u → v.ownBlock = some q → u.ownBlock = some q → i = j)
theorem Inn.nil (w : World) (base : Nat) : Inn w base [] [] := ⟨rfl, fun i v l h => by simp at h, fun i j v u q h => by simp at h⟩
theorem Inn.mono {w : World} {base base' : Nat} {vs : List Value} {ls : List (List CC)} (h : Inn w base vs ls) (hb : base' ≤ base) : Inn w base' vs ls :=
  ⟨h.1, fun i v l h1 h2 => (h.2.1 i v l h1 h2).mono hb, h.2.2⟩
theorem Inn.keptBy {w w' : World} {base : Nat} {vs : List Value} {ls : List (List CC)} (h : Inn w base vs ls) {row : Option Nat} (hg : w.grownBy w' row) (hr : ∀ q cur, row = some q → w.heap[q]? ≠ some (.cells cur 60 (0, 0))) : Inn w' base vs ls :=
  ⟨h.1, fun i v l h1 h2 => (h.2.1 i v l h1 h2).keptBy hg fun q hq e => by
    obtain ⟨cur, hc⟩ := (h.2.1 i v l h1 h2).block hq
    exact hr q cur e hc, h.2.2⟩
theorem Inn.below {w w' : World} {base : Nat} {vs : List Value} {ls : List (List CC)} (h : Inn w base vs ls) (hb : Below w.heap.size w w') : Inn w' base vs ls :=
  ⟨h.1, fun i v l h1 h2 => (h.2.1 i v l h1 h2).below hb, h.2.2⟩
theorem Inn.lt {w : World} {base : Nat} {vs : List Value} {ls : List (List CC)} (h : Inn w base vs ls) {i : Nat} {v : Value} (hv : vs[i]? = some v) {q : Nat} (hq : v.ownBlock = some q) : base ≤ q ∧ q < w.heap.size := by
  obtain ⟨l, hl⟩ : ∃ l, ls[i]? = some l := ⟨_, List.getElem?_eq_getElem (by rw [← h.1]; exact (List.getElem?_eq_some_iff.1 hv).1)⟩
  exact (h.2.1 i v l hv hl).lt hq
/-- One row more, whose block lies beyond all of the others. -/
theorem Inn.snoc {w : World} {base n0 : Nat} {vs : List Value} {ls : List (List CC)} (h : Inn w base vs ls) (hlt : ∀ (i : Nat) (v : Value) (q : Nat), vs[i]? = some v → v.ownBlock = some q → q < n0) (hb : base ≤ n0) {v : Value} {l : List CC} (ho : Own eC 60 w n0 v l) : Inn w base (vs ++ [v]) (ls ++ [l]) := by
  refine ⟨by simp [h.1], fun i u m h1 h2 => ?_, fun i j u x q h1 h2 h3 h4 => ?_⟩
  · rw [List.getElem?_append] at h1 h2
    rw [h.1] at h1
    split at h1
    · rename_i hlt'
      rw [if_pos hlt'] at h2
      exact h.2.1 i u m h1 h2
    · rename_i hlt'
      rw [if_neg hlt'] at h2
      obtain ⟨e, e2⟩ := List.getElem?_eq_some_iff.1 h1
      obtain ⟨e', e2'⟩ := List.getElem?_eq_some_iff.1 h2
      simp at e2 e2'
      subst e2 e2'
      exact ho.mono hb
  · rw [List.getElem?_append] at h1 h2
    split at h1 <;> split at h2
    · exact h.2.2 i j u x q h1 h2 h3 h4
    · obtain ⟨e, e2⟩ := List.getElem?_eq_some_iff.1 h2
      simp at e2
      subst e2
      have := hlt i u q h1 h3
      have := (ho.lt h4).1
      omega
    · obtain ⟨e, e2⟩ := List.getElem?_eq_some_iff.1 h1
      simp at e2
      subst e2
      have := hlt j x q h2 h4
      have := (ho.lt h3).1
      omega
    · obtain ⟨e, _⟩ := List.getElem?_eq_some_iff.1 h1
      obtain ⟨e', _⟩ := List.getElem?_eq_some_iff.1 h2
      simp at e e'
      omega
/-- A slice of slices of our own. -/
def OwnCC (w : World) (base : Nat) (v : Value) (ls : List (List CC)) : Prop := ∃ vs, w.ownsRow base 55 1 v ls.length vs ∧ Inn w base vs ls
theorem OwnCC.below {w w' : World} {base : Nat} {v : Value} {ls : List (List CC)} (h : OwnCC w base v ls) (hb : Below w.heap.size w w') : OwnCC w' base v ls := by
  obtain ⟨vs, h1, h2⟩ := h
  exact ⟨vs, owns_below h1 hb, h2.below hb⟩
theorem OwnCC.mono {w : World} {base base' : Nat} {v : Value} {ls : List (List CC)} (h : OwnCC w base v ls) (hb : base' ≤ base) : OwnCC w base' v ls := by
  obtain ⟨vs, h1, h2⟩ := h
  exact ⟨vs, World.ownsRow.mono h1 hb, h2.mono hb⟩
/-- Rows that lie somewhere, to be read. -/
def RowsC (w : World) (a : Option Addr) (ls : List (List CC)) : Prop := ls = [] ∨ ∃ b o, a = some ⟨b, o, none⟩ ∧ ∀ (i : Nat) (l : List CC), ls[i]? = some l → ∃ ao cap, w.cell? ⟨b, o + i, none⟩ = some (.slice ao l.length cap) ∧ At eC w ao l
theorem OwnCC.at {w : World} {base : Nat} {ao : Option Addr} {n cap : Nat} {ls : List (List CC)} (h : OwnCC w base (.slice ao n cap) ls) : RowsC w ao ls := by
  obtain ⟨vs, h1, h2⟩ := h
  rcases h1.2 with ⟨e, h0⟩ | ⟨g, cap', cur, e, _⟩
  · exact .inl (List.length_eq_zero_iff.1 h0)
  · simp at e
    obtain ⟨rfl, rfl, rfl⟩ := e
    refine .inr ⟨g, 0, rfl, fun i l hl => ?_⟩
    have hi := (List.getElem?_eq_some_iff.1 hl).1
    obtain ⟨v, hv⟩ : ∃ v, vs[i]? = some v := ⟨_, List.getElem?_eq_getElem (by rw [h2.1]; exact hi)⟩
    have ho := h2.2.1 i v l hv hl
    obtain ⟨ao, cp, rfl⟩ := ho.form
    refine ⟨ao, cp, ?_, ho.at⟩
    rw [Nat.zero_add, World.ownsRow.cellAt h1 i (by omega), hv]
/-- What is counted up by the marks. -/
def tot : List (List CC) → Nat
  | [] => 0
  | l :: ls => l.length + tot ls
theorem tot_append : ∀ (a b : List (List CC)), tot (a ++ b) = tot a + tot b
  | [], b => by simp [tot]
  | l :: a, b => by simp only [List.cons_append, tot, tot_append a b]; omega
theorem take_snoc {α : Type} {ls : List α} {j : Nat} {l : α} (h : ls[j]? = some l) : ls.take (j + 1) = ls.take j ++ [l] := by
  rw [List.take_add_one, h]; rfl
theorem tot_take_succ {ls : List (List CC)} {j : Nat} {l : List CC} (h : ls[j]? = some l) : tot (ls.take (j + 1)) = tot (ls.take j) + l.length := by
  rw [take_snoc h, tot_append]
  simp [tot]
theorem tot_take_le (ls : List (List CC)) (j : Nat) : tot (ls.take j) ≤ tot ls := by
  have := tot_append (ls.take j) (ls.drop j)
  rw [List.take_append_drop] at this
  omega
theorem tot_get {ls : List (List CC)} {j : Nat} {l : List CC} (h : ls[j]? = some l) : l.length ≤ tot ls := by
  have h1 := tot_take_succ h
  have h2 := tot_take_le ls (j + 1)
  omega
theorem RowsC.below {w w' : World} {a : Option Addr} {ls : List (List CC)} (h : RowsC w a ls) (hb : Below w.heap.size w w') : RowsC w' a ls := by
  rcases h with h | ⟨b, o, e, h⟩
  · exact .inl h
  · refine .inr ⟨b, o, e, fun i l hl => ?_⟩
    obtain ⟨ao, cap, h1, h2⟩ := h i l hl
    exact ⟨ao, cap, (hb.cell (p := ⟨b, o + i, none⟩) (World.block_lt_of_cell? w _ h1)).trans h1, h2.below hb⟩
theorem RowsC.cons {w : World} {a : Option Addr} {ls : List (List CC)} (h : RowsC w a ls) (hn : 0 < ls.length) : ∃ b o, a = some ⟨b, o, none⟩ ∧ b < w.heap.size ∧ ∀ (i : Nat) (l : List CC), ls[i]? = some l → ∃ ao cap, w.cell? ⟨b, o + i, none⟩ = some (.slice ao l.length cap) ∧ At eC w ao l := by
  rcases h with rfl | ⟨b, o, e, h⟩
  · simp at hn
  · refine ⟨b, o, e, ?_, h⟩
    obtain ⟨x, hx⟩ : ∃ x, ls[0]? = some x := ⟨_, List.getElem?_eq_getElem hn⟩
    obtain ⟨_, _, h1, _⟩ := h 0 x hx
    exact World.block_lt_of_cell? w _ h1

theorem Try.info55 : (Try.prog.info? 55).map (fun i => (i.zero, i.size, i.bytes)) = some (some (.slice none 0 0), 1, 24) := by kernel_rfl
set_option maxRecDepth 100000 in
set_option maxHeartbeats 1600000 in
theorem toCellSS_any (ls : List (List CC)) (a : Option Addr) (c : Nat) (w : World) (hn : ls.length ≤ 1048576) (ht : tot ls ≤ 1048576) (hl : RowsC w a ls) :
    Calls Try.prog 17 #[.slice a ls.length c] w fun e w' => ∃ g, e = .returned (.slice (some ⟨g, 0, none⟩) ls.length ls.length) ∧ OwnCC w' w.heap.size (.slice (some ⟨g, 0, none⟩) ls.length ls.length) ls ∧ Below w.heap.size w w' := by
  obtain ⟨i0, hi, hz⟩ := Option.map_eq_some_iff.1 Try.info55
  simp only [Prod.mk.injEq] at hz
  obtain ⟨hz0, hz1, hz2⟩ := hz
  obtain ⟨w1, hmk, hown0, hg0⟩ := run_make_full (P := Try.prog) w w.heap.size 32 55 i0 _ 1 Try.underlying32 hi hz0 hz1 .i64 .i64 ls.length (by rw [hz2]; omega) (by unfold maxLen; omega) (Nat.le_refl _)
  obtain ⟨g, hgg⟩ : ∃ g, w.heap.size = g := ⟨_, rfl⟩
  have HGG := mkHid hgg
  rw [hgg] at hmk hown0
  have HL := mkHid hl
  have HO := mkHid hown0
  have HT := mkHid ht
  have HG := mkHid (Below.grown (Below.refl w.heap.size w) hg0 (Nat.le_refl _) (fun k hk => by cases hk))
  clear hl hown0 hg0 hi hz0 hz1 hz2 hgg ht
  go_enter Try.func17, Try.ntmps17
  go_wp2
  go_loopw [4] (fun i w' => ∃ (k : Nat) (xs : List Value), k ≤ ls.length ∧ i = .int .i64 k ∧ w'.ownsRow g 55 1 (.slice (some ⟨g, 0, none⟩) ls.length ls.length) ls.length xs ∧ Inn w' g (xs.take k) (ls.take k) ∧ Below w.heap.size w w') (fun i _ => ls.length - (intOf i).toNat)
  case atStart => exact ⟨0, _, Nat.zero_le _, rfl, HO.out, by simpa using Inn.nil _ _, HG.out⟩
  case round =>
    obtain ⟨k, xs, hk, rfl, hown, hinn, hbel⟩ := hrel
    have HW := mkHid hown
    have HI := mkHid hinn
    have HB := mkHid hbel
    clear hown hinn hbel HO HG hmk
    by_cases hlt : k < ls.length
    · obtain ⟨l, hx⟩ : ∃ x, ls[k]? = some x := ⟨_, List.getElem?_eq_getElem hlt⟩
      obtain ⟨b, o, rfl, _, hl⟩ := (HL.out.below HB.out).cons (by omega)
      obtain ⟨ao, cp, c0, hat⟩ := hl k l hx
      have HX := mkHid hx
      have HAT := mkHid hat
      have hll := tot_get hx
      clear hl hx hat
      have i0 : (0 : Int) ≤ (k : Int) := by omega
      have i1 : (k : Int) < (ls.length : Int) := by omega
      go_wp2_with fail
      refine (toCellS_any l ao cp _ (by have := HT.out; omega) HAT.out).mono ?_
      rintro e w2 ⟨gn, rfl, hon, hb1⟩
      have HW1 := mkHid (owns_below HW.out hb1)
      have HI1 := mkHid (HI.out.below hb1)
      have HB1 := mkHid (below_step HB.out hb1)
      have HN := mkHid hon
      have HLT : Hid (∀ (i : Nat) (v : Value) (q : Nat), (xs.take k)[i]? = some v → v.ownBlock = some q → q < wr.heap.size) := mkHid fun i v q h1 h2 => (HI.out.lt h1 h2).2
      have hxl := HW1.out.1
      have hgw : g < wr.heap.size := (World.ownsRow.lt HW.out g rfl).2
      have HGW := mkHid hgw
      have HGS : Hid (wr.heap.size ≤ gn) := mkHid ((HN.out.lt (q := gn) rfl).1)
      clear hb1 hon HB HW HI c0 hgw
      obtain ⟨u0, y0⟩ : ∃ v, w2.cell? ⟨g, k, none⟩ = some v := ⟨_, (HW1.out.cellAt k (by omega)).trans (List.getElem?_eq_getElem (by omega))⟩
      have z0 := HW1.out.frozenAt k
      have HA := mkHid (HW1.out.stored k (.slice (some ⟨gn, 0, none⟩) l.length l.length))
      have HXL := mkHid hxl
      clear hxl
      go_wp2
      go_roundw
      case rel =>
        have hxl := HXL.out
        refine ⟨k + 1, _, by omega, by go_num, HA.out.1, ?_, HB1.out.setCell (p := ⟨g, k, none⟩) (Nat.le_of_eq HGG.out) _⟩
        have e1 : (xs.set k (.slice (some ⟨gn, 0, none⟩) l.length l.length)).take (k + 1) = xs.take k ++ [.slice (some ⟨gn, 0, none⟩) l.length l.length] := by
          rw [List.take_succ_eq_append_getElem (by simp; omega)]
          simp [List.take_set_of_le]
        rw [e1, take_snoc HX.out]
        have hg2 := HA.out.2
        refine Inn.snoc (n0 := wr.heap.size) ?_ HLT.out (Nat.le_of_lt HGW.out) ?_
        · refine HI1.out.keptBy hg2 fun q cur e hc => ?_
          have e' : g = q := Option.some.inj e
          subst e'
          rcases HW1.out.2 with ⟨e2, _⟩ | ⟨g2, _, cur2, e2, _, hg3, _⟩
          · simp at e2
          · simp at e2
            obtain ⟨rfl, rfl⟩ := e2
            rw [hc] at hg3
            simp at hg3
        · refine HN.out.keptBy hg2 fun q hq e => ?_
          have e' : g = q := Option.some.inj e
          have e'' : gn = q := Option.some.inj hq
          have h1 := HGS.out
          have h2 := HGW.out
          omega
      case measure => simp [intOf]; omega
    · have e : k = ls.length := by omega
      subst e
      have hinn := HI.out
      have hxl := HW.out.1
      rw [List.take_of_length_le (by omega), List.take_length] at hinn
      have HI := mkHid hinn
      clear hinn hxl
      go_wp2
      go_ret
      exact ⟨g, rfl, ⟨xs, by rw [HGG.out]; exact HW.out, by rw [HGG.out]; exact HI.out⟩, HB.out⟩
/-- What is left of a size. -/
def szN (left : Int) (n : Nat) : Int := if left - n < 0 then -1 else left - n
theorem szC_any (a : Option Addr) (n c : Nat) (left : Int) (w : World) (hn : n ≤ maxLen) (h0 : 0 ≤ left) (h1 : left ≤ 1048576) :
    Calls Try.prog 23 #[.slice a n c, .int .i64 left] w fun e w' => e = .returned (.int .i64 (szN left n)) ∧ w = w' := by
  unfold maxLen at hn
  unfold szN
  by_cases h : left - n < 0
  · rw [if_pos h]
    go_enter Try.func23, Try.ntmps23
    go_wp2
    go_ret
    exact ⟨rfl, rfl⟩
  · rw [if_neg h]
    go_enter Try.func23, Try.ntmps23
    go_wp2
    go_ret
    exact ⟨rfl, rfl⟩
set_option maxRecDepth 100000 in
set_option maxHeartbeats 1600000 in
theorem szCellSS_of (ls : List (List CC)) (a : Option Addr) (c : Nat) (left : Int) (w : World) (hn : ls.length ≤ maxLen) (hr : ∀ (i : Nat) (l : List CC), ls[i]? = some l → l.length ≤ maxLen) (h0 : 0 ≤ left) (h1 : left ≤ 1048576) (hl : RowsC w a ls) :
    Calls Try.prog 13 #[.slice a ls.length c, .int .i64 left] w fun e w' => w = w' ∧ ∃ r : Int, e = .returned (.int .i64 r) ∧ (0 ≤ r → ls.length ≤ 1048576 ∧ tot ls ≤ 1048576 ∧ r ≤ 1048576) := by
  unfold maxLen at hn
  have HL := mkHid hl
  have HR := mkHid hr
  clear hl hr
  by_cases hbig : left - ls.length < 0
  · go_enter Try.func13, Try.ntmps13
    go_wp2
    go_ret
    exact ⟨rfl, -1, rfl, fun h => absurd h (by omega)⟩
  go_enter Try.func13, Try.ntmps13
  go_wp2
  go_loopw [1, 5] (fun lv i w' => ∃ (k : Nat) (z : Int), k ≤ ls.length ∧ i = .int .i64 k ∧ lv = .int .i64 z ∧ 0 ≤ z ∧ z + tot (ls.take k) ≤ 1048576 ∧ w' = w) (fun _ i _ => ls.length - (intOf i).toNat)
  case atStart => exact ⟨0, _, Nat.zero_le _, rfl, rfl, by omega, by simp [tot]; omega, rfl⟩
  case round =>
    obtain ⟨k, z, hk, rfl, rfl, hz0, hz1, rfl⟩ := hrel
    by_cases hlt : k < ls.length
    · obtain ⟨l, hx⟩ : ∃ x, ls[k]? = some x := ⟨_, List.getElem?_eq_getElem hlt⟩
      obtain ⟨b, o, rfl, _, hl⟩ := HL.out.cons (by omega)
      obtain ⟨ao, cp, c0, _⟩ := hl k l hx
      have HM := mkHid (HR.out k l hx)
      have HT := mkHid (tot_take_succ hx)
      have HZ := mkHid hz1
      have hz2 : z ≤ 1048576 := by omega
      clear hl hx hz1
      have i0 : (0 : Int) ≤ (k : Int) := by omega
      have i1 : (k : Int) < (ls.length : Int) := by omega
      go_wp2_with fail
      refine (szC_any ao l.length cp z _ HM.out hz0 hz2).mono ?_
      rintro e w2 ⟨rfl, rfl⟩
      obtain ⟨r, hr⟩ : ∃ r, szN z l.length = r := ⟨_, rfl⟩
      have HQ : Hid (¬ r < 0 → 0 ≤ r ∧ r + l.length ≤ z) := mkHid fun h => by unfold szN at hr; split at hr <;> omega
      rw [hr]
      clear hr
      by_cases hneg : r < 0
      · go_wp2
        go_ret
        exact ⟨rfl, -1, rfl, fun h => absurd h (by omega)⟩
      · obtain ⟨hq0, hq1⟩ := HQ.out hneg
        have HQ1 := mkHid hq1
        clear hq1
        go_wp2
        go_roundw
        case rel => exact ⟨k + 1, r, by omega, by go_num, rfl, hq0, by have := HT.out; have := HZ.out; have := HQ1.out; omega, by trivial⟩
        case measure => simp [intOf]; omega
    · have e : k = ls.length := by omega
      subst e
      have HZ := mkHid hz1
      clear hz1
      go_wp2
      go_ret
      exact ⟨rfl, z, rfl, fun _ => ⟨by omega, by have := HZ.out; rw [List.take_length] at this; omega, by have := HZ.out; omega⟩⟩
set_option maxRecDepth 100000 in
set_option maxHeartbeats 800000 in
theorem eqCellSS_of (ls : List (List CC)) (b off c b' off' c' : Nat) (w : World) (hn : ls.length ≤ maxLen) (hr : ∀ (i : Nat) (l : List CC), ls[i]? = some l → l.length ≤ maxLen)
    (hl : ∀ (i : Nat) (l : List CC), ls[i]? = some l → ∃ ao cap, w.cell? ⟨b, off + i, none⟩ = some (.slice ao l.length cap) ∧ At eC w ao l)
    (hl' : ∀ (i : Nat) (l : List CC), ls[i]? = some l → ∃ ao cap, w.cell? ⟨b', off' + i, none⟩ = some (.slice ao l.length cap) ∧ At eC w ao l) :
    Calls Try.prog 22 #[.slice (some ⟨b, off, none⟩) ls.length c, .slice (some ⟨b', off', none⟩) ls.length c'] w fun e w' => e = .returned (.bool true) ∧ Below w.heap.size w w' := by
  unfold maxLen at hn
  have HR := mkHid hr
  have HL := mkHid hl
  have HL' := mkHid hl'
  clear hl hl' hr
  go_enter Try.func22, Try.ntmps22
  go_wp2
  go_loopw [5] (fun i w' => ∃ (k : Nat), k ≤ ls.length ∧ i = .int .i64 k ∧ Below w.heap.size w w') (fun i _ => ls.length - (intOf i).toNat)
  case atStart => exact ⟨0, Nat.zero_le _, rfl, Below.refl _ _⟩
  case round =>
    obtain ⟨k, hk, rfl, hbel⟩ := hrel
    have HB := mkHid hbel
    by_cases hlt : k < ls.length
    · obtain ⟨l, hx⟩ : ∃ l, ls[k]? = some l := ⟨_, List.getElem?_eq_getElem hlt⟩
      obtain ⟨xa, xc, h1, hi1⟩ := HL.out k l hx
      obtain ⟨ya, yc, h2, hi2⟩ := HL'.out k l hx
      have HM := mkHid (HR.out k l hx)
      have hc1 : wr.cell? ⟨b, off + k, none⟩ = some (.slice xa l.length xc) := (hbel.cell (p := ⟨b, off + k, none⟩) (World.block_lt_of_cell? w _ h1)).trans h1
      have hc2 : wr.cell? ⟨b', off' + k, none⟩ = some (.slice ya l.length yc) := (hbel.cell (p := ⟨b', off' + k, none⟩) (World.block_lt_of_cell? w _ h2)).trans h2
      have HK := mkHid (hi1.below hbel)
      have HK' := mkHid (hi2.below hbel)
      have hlb := World.block_lt_of_cell? wr _ hc1
      have hlb' := World.block_lt_of_cell? wr _ hc2
      dsimp only at hlb hlb'
      clear hx h1 h2 hbel hi1 hi2
      have i0 : (0 : Int) ≤ (k : Int) := by omega
      have i1 : (k : Int) < (ls.length : Int) := by omega
      go_wp2
      go_region_held3 (fun w' => w'.cell? ⟨b, off + k, none⟩ = some (.slice xa l.length xc) ∧ w'.cell? ⟨b', off' + k, none⟩ = some (.slice ya l.length yc)) (first | exact ⟨hc1, hc2⟩ | exact ⟨(hc _ _ hlb).trans hc1, (hc _ _ hlb').trans hc2⟩)
        (first | (go_at_call 27; refine (eqCellS_same l xa ya xc yc _ HM.out (HK.out.below (Below.refl _ _).drew) (HK'.out.below (Below.refl _ _).drew)).mono ?_; rintro e w1 ⟨rfl, hb1⟩; obtain ⟨hc, hf⟩ := bcell hb1))
      have HB1 : Hid (Below w.heap.size w w1) := HB.out.drew.trans (hb1.mono HB.out.drew.size)
      clear hb1 hc hf
      go_wp2
      go_roundw
      case rel => exact ⟨k + 1, by omega, by go_num, HB1.out⟩
      case measure => simp [intOf]; omega
    · go_wp2
      go_ret
      exact ⟨rfl, HB.out⟩
set_option maxRecDepth 100000 in
set_option maxHeartbeats 400000 in
theorem eqCellSS_nil (a a' : Option Addr) (c c' : Nat) (w : World) : Calls Try.prog 22 #[.slice a 0 c, .slice a' 0 c'] w fun e w' => e = .returned (.bool true) ∧ Below w.heap.size w w' := by
  go_enter Try.func22, Try.ntmps22
  go_wp2
  go_loopw [5] (fun i w' => i = .int .i64 0 ∧ w' = w) (fun i _ => 0)
  case atStart => exact ⟨rfl, rfl⟩
  case round =>
    obtain ⟨rfl, rfl⟩ := hrel
    go_wp2
    go_ret
    exact ⟨rfl, Below.refl _ _⟩
theorem eqCellSS_ok (ls : List (List CC)) (a a' : Option Addr) (c c' : Nat) (w : World) (hn : ls.length ≤ maxLen) (hr : ∀ (i : Nat) (l : List CC), ls[i]? = some l → l.length ≤ maxLen) (hl : RowsC w a ls) (hl' : RowsC w a' ls) :
    Calls Try.prog 22 #[.slice a ls.length c, .slice a' ls.length c'] w fun e w' => e = .returned (.bool true) ∧ Below w.heap.size w w' := by
  rcases hl with rfl | ⟨b, o, rfl, hl⟩
  · exact eqCellSS_nil a a' c c' w
  · rcases hl' with rfl | ⟨b', o', rfl, hl'⟩
    · exact eqCellSS_nil _ a' c c' w
    · exact eqCellSS_of ls b o c b' o' c' w hn hr hl hl'
end Go.Proofs.Ytaekcmbjcfpigaa
