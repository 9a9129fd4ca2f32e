/-
  FACTS THAT ARE WIDENED AGAIN AND AGAIN (plain): what falls at each change; what widening by one state gives.
  PURE: which numbers joined, met, widened and closed facts are so of.
  TWO GRIDS COMPARED; what FactsLeq answers.
-/
import Derived.Test.YtgclngofigffdaaFo13
import Derived.Test.YtgclngofigffdaaFo08
import Derived.Test.YtgclngofigffdaaFo09
import Derived.Test.YtgclngofigffdaaFo15
import Derived.Test.YtgclngofigffdaaFo10
import Derived.Laws.StructEq
namespace Go.Proofs.Ytgclngofigffdaa

theorem st1_cases (x t e : Int) : st1 x t e = t ∨ (st1 x t e = e ∧ x ≤ e) := by
  unfold st1
  split
  · rcases Int.le_total t e with h | h
    · exact .inl (Int.min_eq_left h)
    · exact .inr ⟨Int.min_eq_right h, by assumption⟩
  · exact .inl rfl
theorem stepM_mem (x : Int) : ∀ (l : List Int) (t : Int), x ≤ t → x ≤ stepM x t l ∧ stepM x t l ≤ t ∧ (stepM x t l = t ∨ stepM x t l ∈ l ∨ stepM x t l ∈ l.map (fun s => -s))
  | [], t, h => ⟨h, Int.le_refl _, .inl rfl⟩
  | s :: l, t, h => by
    have key : x ≤ st2 x t s ∧ st2 x t s ≤ t ∧ (st2 x t s = t ∨ st2 x t s = s ∨ st2 x t s = -s) := by
      unfold st2
      have h1 : x ≤ st1 x t s ∧ st1 x t s ≤ t := by unfold st1; split <;> omega
      have h2 : x ≤ st1 x (st1 x t s) (-s) ∧ st1 x (st1 x t s) (-s) ≤ st1 x t s := by
        generalize st1 x t s = u at h1
        unfold st1; split <;> omega
      refine ⟨h2.1, by omega, ?_⟩
      rcases st1_cases x (st1 x t s) (-s) with e | e
      · rw [e]
        rcases st1_cases x t s with e' | e'
        · exact .inl e'
        · exact .inr (.inl e'.1)
      · exact .inr (.inr e.1)
    have ih := stepM_mem x l (st2 x t s) key.1
    have e : stepM x t (s :: l) = stepM x (st2 x t s) l := rfl
    rw [e]
    refine ⟨ih.1, by omega, ?_⟩
    rcases ih.2.2 with h1 | h1 | h1
    · rw [h1]
      rcases key.2.2 with h2 | h2 | h2
      · exact .inl h2
      · exact .inr (.inl (by rw [h2]; exact List.mem_cons_self))
      · exact .inr (.inr (by rw [h2]; exact List.mem_map.2 ⟨s, List.mem_cons_self, rfl⟩))
    · exact .inr (.inl (List.mem_cons_of_mem _ h1))
    · obtain ⟨u, hu, e⟩ := List.mem_map.1 h1
      exact .inr (.inr (List.mem_map.2 ⟨u, List.mem_cons_of_mem _ hu, e⟩))
theorem mk_getD {n : Nat} {f : Tab} {p : Nat} (hp : p < n * n) : (mk n f).getD p 0 = f (p / n) (p % n) := by
  unfold mk
  rw [List.getD_eq_getElem?_getD, List.getElem?_map, List.getElem?_range hp]; rfl
end Go.Proofs.Ytgclngofigffdaa
namespace Go.Proofs.Ytgclngofigffdaa
open Go.RowKit

theorem cF_n {n : Nat} {l : List Int} (hok : okF n l = true) : cF n l = cloO n (tab n l) := by unfold cF; rw [okO_yes hok, Int.toNat_natCast]; rfl
theorem go_yes {n : Nat} {l l' : List Int} (h : okF n l = true) (h' : okF n l' = true) : goB n l n l' = true := by unfold goB; rw [ok_no h, ok_no h', h, h']; simp
end Go.Proofs.Ytgclngofigffdaa
namespace Go.Proofs.Ytgclngofigffdaa
open Go.RowKit

theorem run_eqArr {P : Program} (w : World) (d : Nat) {t e : TypeId} {n s : Nat} (hu : P.underlying t = some (.array n e)) (hsz : ∀ w, (sizeOf e).run P w = .ok s w) (xs ys : Array Value) (E : Nat → Bool)
    (h : ∀ i, i < n → ∃ a b, (part e xs (i * s)).run P w = .ok a w ∧ (part e ys (i * s)).run P w = .ok b w ∧ (Op.equalIn d e a b).run P w = .ok (E i) w) :
    (Op.equalIn (d + 1) t (.agg xs) (.agg ys)).run P w = .ok ((List.range n).all E) w := by
  rw [List.range_eq_range', Op.equalIn]
  simp only [Sem.run_bind, run_underlying hu, Result.andThen_ok, hsz, Std.Legacy.Range.forIn_eq_forIn_range', Std.Legacy.Range.size, Nat.sub_zero, Nat.add_sub_cancel, Nat.div_one]
  have hl : ∀ i ∈ List.range' 0 n 1, i < n := fun i hi => by simpa using (List.mem_range'_1.1 hi).2
  generalize List.range' 0 n 1 = l at hl ⊢
  induction l with
  | nil => simp
  | cons i l ih =>
    obtain ⟨a, b, px, py, pe⟩ := h i (hl i (by simp))
    simp only [List.forIn_cons, Sem.run_bind, px, py, pe, Result.andThen_ok, List.all_cons]
    cases hb : E i
    · simp
    · simp only [Bool.not_true, Bool.false_eq_true, if_false, Sem.run_pure, Result.andThen_ok, Bool.true_and]
      exact ih fun j hj => hl j (by simp [hj])
theorem size_3 (w : World) : (sizeOf 3).run Try.prog w = .ok 1 w := by simp [Try.sizeOf3]
theorem size_55 (w : World) : (sizeOf 55).run Try.prog w = .ok 13 w := by simp [Try.sizeOf55]
theorem part55 (w : World) (G : List Int) {i : Nat} (_hi : i < 13) : (part 55 (gA G) (i * 13)).run Try.prog w = .ok (.agg (gA (rowG G i))) w := by
  have h2 : (gA G).extract (i * 13) (i * 13 + 13) = gA (rowG G i) := by
    unfold gA rowG ints
    simp [List.map_take, List.map_drop]
  simp [part, Try.isAgg55, Try.sizeOf55, h2]
theorem run_eqRow (w : World) (d : Nat) (L M : List Int) (hL : L.length = 13) (hM : M.length = 13) : (Op.equalIn (d + 2) 55 (.agg (gA L)) (.agg (gA M))).run Try.prog w = .ok ((List.range 13).all fun j => L.getD j 0 == M.getD j 0) w := by
  refine run_eqArr w (d + 1) Try.underlying55 size_3 _ _ _ (fun i hi => ⟨.int .i64 (L.getD i 0), .int .i64 (M.getD i 0), ?_, ?_, ?_⟩)
  · have : (gA L)[i]? = some (.int .i64 (L.getD i 0)) := by simp only [gA, List.getElem?_toArray, ints_get]; rw [get_of (by omega)]; rfl
    simp only [part, Try.isAgg3, Sem.run_bind, Result.andThen_ok]
    simp [this]
  · have : (gA M)[i]? = some (.int .i64 (M.getD i 0)) := by simp only [gA, List.getElem?_toArray, ints_get]; rw [get_of (by omega)]; rfl
    simp only [part, Try.isAgg3, Sem.run_bind, Result.andThen_ok]
    simp [this]
  · exact run_equalIn_int w d 3 .i64 .i64 _ _ Try.underlying3
theorem run_eqGrid (w : World) (G H : List Int) (hG : G.length = 169) (hH : H.length = 169) : (binOp .eql 57 (.agg (gA G)) (.agg (gA H))).run Try.prog w = .ok (.bool ((List.range 13).all fun i => (List.range 13).all fun j => (rowG G i).getD j 0 == (rowG H i).getD j 0)) w := by
  rw [run_eql_struct]
  have : (Op.equalIn 10000 57 (.agg (gA G)) (.agg (gA H))).run Try.prog w = .ok ((List.range 13).all fun i => (List.range 13).all fun j => (rowG G i).getD j 0 == (rowG H i).getD j 0) w := by
    refine run_eqArr w 9999 Try.underlying57 (s := 13) size_55 _ _ _ (fun i hi => ⟨.agg (gA (rowG G i)), .agg (gA (rowG H i)), ?_, ?_, run_eqRow w 9997 _ _ (rowG_len hG hi) (rowG_len hH hi)⟩)
    · exact part55 w G hi
    · exact part55 w H hi
  rw [this]
  rfl
theorem grids_same {G H : List Int} (hG : G.length = 169) (hH : H.length = 169) : ((List.range 13).all fun i => (List.range 13).all fun j => (rowG G i).getD j 0 == (rowG H i).getD j 0) = decide (G = H) := by
  rw [Bool.eq_iff_iff, decide_eq_true_iff]
  constructor
  · intro h
    apply List.ext_getElem?
    intro p
    by_cases hp : p < 169
    · have h1 := List.all_eq_true.1 (List.all_eq_true.1 h (p / 13) (List.mem_range.2 (by omega))) (p % 13) (List.mem_range.2 (by omega))
      have h2 : (rowG G (p / 13)).getD (p % 13) 0 = (rowG H (p / 13)).getD (p % 13) 0 := by simpa using h1
      rw [rowG_get (by omega), rowG_get (by omega)] at h2
      rw [show p / 13 * 13 + p % 13 = p by omega] at h2
      rw [get_of (by omega), get_of (by omega), h2]
    · rw [List.getElem?_eq_none (by omega), List.getElem?_eq_none (by omega)]
  · rintro rfl
    refine List.all_eq_true.2 fun i _ => List.all_eq_true.2 fun j _ => by simp
def leL (n : Nat) (f : Tab) (l' : List Int) : Bool := (List.range (n * n)).all fun p => decide ((mk n f).getD p 0 ≤ l'.getD p 0)
/-- What FactsLeq answers. -/
def leqF (z : Int) (l : List Int) (z' : Int) (l' : List Int) : Bool := goB z l z' l' && (match cF z l with
  | none => true
  | some f => !noF z' l' && leL z.toNat f l')
theorem le_grid {n : Nat} (hn : n ≤ 13) (f : Tab) (l' : List Int) (hl : l'.length = n * n) : decide (opL max (grid n f) (grid n (tab n l')) = grid n (tab n l')) = leL n f l' := by
  rw [grid_op hn f (tab n l') max rfl, Bool.eq_iff_iff, decide_eq_true_iff]
  unfold leL
  constructor
  · intro h
    refine List.all_eq_true.2 fun p hp => decide_eq_true ?_
    have hp' := List.mem_range.1 hp
    have hn0 : 0 < n := by rcases Nat.eq_zero_or_pos n with h0 | h0; subst h0; omega; exact h0
    have hd : p / n < n := Nat.div_lt_of_lt_mul hp'
    have hm : p % n < n := Nat.mod_lt _ hn0
    have h1 := grid_inj hn h hd hm
    have h2 := mk_V n f (p / n) (p % n) hd hm
    have h3 : p / n * n + p % n = p := Nat.div_add_mod' p n
    rw [h3] at h2
    rw [h2]
    have h4 : tab n l' (p / n) (p % n) = l'.getD p 0 := by unfold tab; rw [h3]
    rw [← h4]
    omega
  · intro h
    refine grid_congr hn (fun i j hi hj => ?_)
    have h1 := of_decide_eq_true (List.all_eq_true.1 h (i * n + j) (List.mem_range.2 (idx_lt hi hj)))
    rw [mk_V n f i j hi hj] at h1
    show max (f i j) (tab n l' i j) = tab n l' i j
    unfold tab
    omega
end Go.Proofs.Ytgclngofigffdaa
