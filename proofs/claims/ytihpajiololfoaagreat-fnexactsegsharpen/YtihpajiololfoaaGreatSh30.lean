/-
  CONTRACT of the specification's l10Sort.
-/
import Derived.Test.YtihpajiololfoaaGreatSh29
import Derived.Test.YtihpajiololfoaaGreatSh12
import Derived.Test.YtihpajiololfoaaGreatSh08
import Derived.Test.YtihpajiololfoaaGreatSh14
namespace Go.Proofs.YtihpajiololfoaaGreat
open Go.RowKit

theorem At.take {w : World} {a : Option Addr} {l : List Y} (h : At eY w a l) (k : Nat) : At eY w a (l.take k) := by
 rcases h with h | ⟨b, o, e, h⟩
 ·exact .inl (by rw [h]; simp)
 ·refine .inr ⟨b, o, e, fun i x hx => h i x ?_⟩
  rw [List.getElem?_take] at hx
  split at hx
  ·exact hx
  ·cases hx
theorem At.dropY {w : World} {b o : Nat} {l : List Y} (h : At eY w (some ⟨b, o, none⟩) l) (k : Nat) : At eY w (some ⟨b, o + k * 2, none⟩) (l.drop k) := by
 rcases h with h | ⟨b', o', e, h⟩
 ·exact .inl (by rw [h]; simp)
 ·cases e
  refine .inr ⟨b, o + k * 2, rfl, fun i x hx j v hv => ?_⟩
  rw [List.getElem?_drop] at hx
  have := h (k + i) x hx j v hv
  rw [← this]
  congr 2
  show o + k * 2 + i * 2 + j = o + (k + i) * 2 + j
  omega
theorem Own.cap {w : World} {base n c : Nat} {a : Option Addr} {l : List Y} (h : Own eY 49 w base (.slice a n c) l) : l.length ≤ c := by
 rcases h.2 with ⟨e, h⟩ | ⟨g, cap, cur, e, _, _, h4, _⟩
 ·have : l.length = 0 := by have := h; cases l with | nil => rfl | cons p l => simp at this
  omega
 ·cases e; exact h4
/-- Terms appended to a row of one's own, be they many or none. -/
theorem append_y {ops : Array Oper} {rest : List Oper} {o : Oper} {a : Act} {Q : Exit → Act → World → Prop} (w : World) (hgd : o.guard = none) (s x : Operand)
  (ho : o.op = .call { callee := .builtin .append, args := #[s, x], argTypes := #[113, 113] }) (base : Nat) (g0 cr n : Nat) (l : List Y) (hs : a.eval s = .slice (some ⟨g0, 0, none⟩) n cr) (hn : l.length = n) (hown : Own eY 49 w base (.slice (some ⟨g0, 0, none⟩) n cr) l)
  (ax : Option Addr) (cx k : Nat) (m : List Y) (hx : a.eval x = .slice ax k cx) (hk : m.length = k) (hm : At eY w ax m) (h63 : n + k ≤ 4194304) (hbase : base ≤ w.heap.size)
  (h : ∀ g cap w', Own eY 49 w' base (.slice (some ⟨g, 0, none⟩) (n + k) cap) (l ++ m) → w.grownBy w' (some g0) → wpList Tryz.prog ops Q rest (a.put o.dst (.slice (some ⟨g, 0, none⟩) (n + k) cap)) w') : wpList Tryz.prog ops Q (o :: rest) a w := by
 subst hn
 subst hk
 obtain ⟨ti, hti, hz⟩ := Option.map_eq_some_iff.1 infoY
 simp only [Prod.mk.injEq] at hz
 obtain ⟨hz0, hz1, hz2⟩ := hz
 cases m with
 | nil =>
  refine wpList_append_zero w hgd s x 113 ho 49 ti Tryz.underlying113 hti (some ⟨g0, 0, none⟩) l.length cr hown.cap hs ax cx hx ?_
  exact h g0 cr w (by simpa using hown) (grown_below (Below.refl _ _))
 | cons p m =>
  obtain ⟨b, off, rfl, _, hq⟩ := hm.cons (by simp)
  refine wpList_append_lies w hgd s x 113 ho base 49 ti (.agg #[.int .i64 0, .int .i64 0]) 2 16 Tryz.underlying113 hti hz0 hz1 hz2 rfl (by decide) _ _ _ hs hown ⟨b, off, none⟩ _ cx (eY.flat (p :: m)) hx (El.flat_len _ _) (news_at hq) (fun u hu => flat_one hu) (by simp) (by unfold maxLen; omega) (by omega) hbase _ rfl ?_
  intro g cap w' h1 h2 _ _
  refine h g cap w' ?_ h2
  unfold Own
  rw [List.length_append, El.flat_app]
  exact h1
set_option maxRecDepth 100000 in
set_option maxHeartbeats 6400000 in
theorem sSort_any (l : List Y) (al : Option Addr) (cl : Nat) (w : World) (hn : l.length ≤ 1048576) (hl : At eY w al l) :
  Calls Tryz.prog 83 #[.slice al l.length cl] w fun e w' => Below w.heap.size w w' ∧ ∃ (g c : Nat), e = .returned (.slice (some ⟨g, 0, none⟩) (setY l).length c) ∧ Own eY 49 w' w.heap.size (.slice (some ⟨g, 0, none⟩) (setY l).length c) (setY l) := by
 obtain ⟨ti, hti, hz⟩ := Option.map_eq_some_iff.1 infoY
 simp only [Prod.mk.injEq] at hz
 obtain ⟨hz0, hz1, hz2⟩ := hz
 have HI := mkHid (show Tryz.prog.info? 49 = some ti ∧ ti.zero = some (.agg #[.int .i64 0, .int .i64 0]) ∧ ti.size = 2 ∧ ti.bytes = 16 from ⟨hti, hz0, hz1, hz2⟩)
 clear hti hz0 hz1 hz2
 have HF : Hid (Own eY 49 (w.alloc (.cells #[] 49)) w.heap.size (.slice (some ⟨w.heap.size, 0, none⟩) 0 0) []) := mkHid (fresh_y (Nat.le_refl _) (by have := heap_alloc_new w (.cells #[] 49); simpa using this))
 have HL := mkHid hl
 clear hl
 go_enter Tryz.func83, Tryz.ntmps83
 go_wp2
 go_loopg [3, 4] l.length (fun g s3 s4 wr => ∃ (i go c : Nat), i ≤ l.length ∧ s4 = .int .i64 i ∧ l.length - i ≤ g ∧ s3 = .slice (some ⟨go, 0, none⟩) (setY (l.take i)).length c ∧ Own eY 49 wr w.heap.size (.slice (some ⟨go, 0, none⟩) (setY (l.take i)).length c) (setY (l.take i)) ∧ Below w.heap.size w wr)
 case atStart => exact ⟨0, _, 0, Nat.zero_le _, rfl, by omega, rfl, HF.out, bl_alloc (Below.refl _ _) _⟩
 case round =>
  clear HF
  obtain ⟨i, go, c, hi, rfl, hg, rfl, hown, hbel⟩ := hrel
  obtain ⟨O, hO⟩ : ∃ z, setY (l.take i) = z := ⟨_, rfl⟩
  rw [hO] at hown ⊢
  obtain ⟨kk, hkk⟩ : ∃ z, O.length = z := ⟨_, rfl⟩
  have hkl : kk ≤ l.length := by rw [← hkk, ← hO]; exact Nat.le_trans (setY_len _) (by simp; omega)
  have HAS : Hid (O.Pairwise LtY) := mkHid (by rw [← hO]; exact (setY_set _).asc)
  have hcap : kk ≤ c := by rw [← hkk]; exact hown.cap
  rw [hkk] at hown ⊢
  have HKK := mkHid hkk
  have HOO := mkHid hO
  have HOW := mkHid hown
  have HBE := mkHid hbel
  clear hown hO hkk
  by_cases hlt : i < l.length
  ·obtain ⟨x, hx⟩ : ∃ x, l[i]? = some x := ⟨_, List.getElem?_eq_getElem hlt⟩
   obtain ⟨b, off, rfl, hbl, hq⟩ := (HL.out.below hbel).cons (by omega)
   obtain ⟨c0, c1⟩ := get_y hq hx
   have HX := mkHid hx
   have i0 : (0 : Int) ≤ (i : Int) := by omega
   have i1 : (i : Int) < (l.length : Int) := by omega
   clear hq hx hbel
   go_wp2_with fail
   have hfd := l10Find_any O (some ⟨go, 0, none⟩) c x wr (by rw [HKK.out]; unfold maxLen; omega) HOW.out.at
   rw [HKK.out] at hfd
   refine hfd.mono ?_
   clear hfd
   rintro e w1 ⟨hb, r, rfl, hr⟩
   have HR := mkHid hr
   have BE1 := mkHid (below_step HBE.out hb)
   have OW1 := mkHid (HOW.out.below hb)
   have HC1 : Hid (w1.cell? ⟨b, off + i * 2, none⟩ = some (.int .i64 x.1) ∧ w1.cell? ⟨b, off + i * 2 + 1, none⟩ = some (.int .i64 x.2) ∧ b < w1.heap.size) := mkHid ⟨((bcell hb).1 _ _ hbl).trans c0, ((bcell hb).1 _ _ hbl).trans c1, Nat.lt_of_lt_of_le hbl hb.size⟩
   clear hb hr HBE HOW hbl c0 c1
   by_cases hr0 : (0 : Int) ≤ r
   ·have HE : Hid (setY (l.take (i + 1)) = O) := mkHid (by rw [setY_next HX.out, HOO.out]; exact ins_old HAS.out (HR.out.1 hr0))
    go_wp2
    go_roundg (l.length - (i + 1))
    case measure => omega
    case rel => exact ⟨i + 1, go, c, by omega, by go_num, Nat.le_refl _, by rw [HE.out, HKK.out], by rw [HE.out, HKK.out]; exact OW1.out, BE1.out⟩
   have HNO : Hid (x ∉ O) := mkHid fun h => hr0 (HR.out.2 h)
   go_wp2
   clear HR
   go_loopg [5] kk (fun g s5 wr2 => ∃ (k : Nat), k ≤ kk ∧ s5 = .int .i64 k ∧ kk - k ≤ g ∧ (∀ (j : Nat) (y : Y), j < k → O[j]? = some y → LtY y x) ∧ Below w1.heap.size w1 wr2)
   case atStart => exact ⟨0, Nat.zero_le _, rfl, by omega, fun j y h => by omega, Below.refl _ _⟩
   case round =>
    obtain ⟨k, hk, rfl, hgk, hall, hbel⟩ := hrel
    have HAL := mkHid hall
    have HBX := mkHid hbel
    have k0 : (0 : Int) ≤ (k : Int) := by omega
    have hcL : ∀ v, Below wr.heap.size wr v → v.cell? ⟨b, off + i * 2, none⟩ = some (.int .i64 x.1) ∧ v.cell? ⟨b, off + i * 2 + 1, none⟩ = some (.int .i64 x.2) := fun v h => by
     have hb := below_step HBX.out h
     exact ⟨((bcell hb).1 _ _ HC1.out.2.2).trans HC1.out.1, ((bcell hb).1 _ _ HC1.out.2.2).trans HC1.out.2.1⟩
    clear hall hbel
    by_cases hlt2 : k < kk
    ·obtain ⟨y, hy⟩ : ∃ y, O[k]? = some y := ⟨_, List.getElem?_eq_getElem (by rw [HKK.out]; exact hlt2)⟩
     obtain ⟨_, _, e, hgo, hq⟩ := OW1.out.at.cons (by rw [HKK.out]; omega)
     cases e
     obtain ⟨d0, d1⟩ := get_y hq hy
     have hcO : ∀ v, Below wr.heap.size wr v → v.cell? ⟨go, k * 2, none⟩ = some (.int .i64 y.1) ∧ v.cell? ⟨go, k * 2 + 1, none⟩ = some (.int .i64 y.2) := fun v h => by
      have hb := below_step HBX.out h
      have e0 := ((bcell hb).1 _ _ hgo).trans d0
      have e1 := ((bcell hb).1 _ _ hgo).trans d1
      rw [Nat.zero_add] at e0 e1
      exact ⟨e0, e1⟩
     have HY := mkHid hy
     have k1 : (k : Int) < (kk : Int) := by omega
     clear hq hy d0 d1
     cases hle : lessB y.1 y.2 x.1 x.2
     ·have HLE := mkHid hle
      have HNK : Hid (∀ z, O[k]? = some z → ¬ LtY z x) := mkHid fun z hz g => by rw [HY.out] at hz; cases hz; exact Bool.false_ne_true (hle.symm.trans ((lessB_iff _ _).2 g))
      clear hle
      go_wp2_with fail
      refine wp_region_inv2 (fun zA0 L zA va => ∃ (zB : Nat → Bool) (zS : Nat → Value), L = #[zB 0, zB 1, zB 2, zB 3, zB 4, zB 5, zB 6, zB 7, zB 8, zB 9, zB 10, zB 11, zB 12, zB 13, zB 14] ∧ zA = puts zA0 [(21, zS 21), (22, zS 22), (23, zS 23), (24, zS 24), (25, zS 25), (26, zS 26), (27, zS 27), (28, zS 28), (29, zS 29), (30, zS 30), (31, zS 31), (32, zS 32), (33, zS 33), (34, zS 34), (35, zS 35)] ∧ FF 21 [.int .i64 (k : Int), .slice (some ⟨go, 0, none⟩) kk c, .int .i64 (kk : Int), .bool true, .bool true, .slice (some ⟨go, 0, none⟩) kk c, .int .i64 (k : Int), .pointer (some ⟨go, k * 2, none⟩), .agg #[.int .i64 y.1, .int .i64 y.2], .slice (some ⟨b, off, none⟩) l.length cl, .int .i64 (i : Int), .pointer (some ⟨b, off + i * 2, none⟩), .agg #[.int .i64 x.1, .int .i64 x.2], .bool false, .bool false] zB zS ∧ Below wr.heap.size wr va) (by kernel_rfl) ?_ ?_ ?_
      ·exact ⟨fun _ => false, fun zd => [u21, u22, u23, u24, u25, u26, u27, u28, u29, u30, u31, u32, u33, u34, u35].getD (zd - 21) undef, rfl, by kernel_rfl, ff0, (Below.refl _ _).drew⟩
      ·refine StepsI.cons rfl ?_ ?_
       ·rintro L zA va ⟨zB, zS, rfl, rfl, hF, hW⟩ hL hm K hK
        have hb0 : zB 0 = false := by simpa using hL
        clear hL hm
        simp only [pE]
        go_simp
        exact hK.out _ _ ⟨ups zB [0], upv _ _ zS [0], rfl, by kernel_rfl, rk hF rfl, hW⟩
       refine StepsI.cons rfl ?_ ?_
       ·rintro L zA va ⟨zB, zS, rfl, rfl, hF, hW⟩ hL hm K hK
        have hb1 : zB 1 = false := by simpa using hL
        clear hL hm
        simp only [pE]
        go_simp
        exact hK.out _ _ ⟨ups zB [1], upv _ _ zS [1], rfl, by kernel_rfl, rk hF rfl, hW⟩
       refine StepsI.cons rfl ?_ ?_
       ·rintro L zA va ⟨zB, zS, rfl, rfl, hF, hW⟩ hL hm K hK
        have hb2 : zB 2 = false := by simpa using hL
        have hb1 : zB 1 = true := mt 1 hm (by kernel_rfl)
        have e1 : zS 22 = .slice (some ⟨go, 0, none⟩) kk c := hF 1 _ rfl hb1
        clear hL hm
        simp only [pE]
        simp only [e1]
        go_simp
        exact hK.out _ _ ⟨ups zB [2], upv _ _ zS [2, 1], rfl, by kernel_rfl, rk hF rfl, hW⟩
       refine StepsI.cons rfl ?_ ?_
       ·rintro L zA va ⟨zB, zS, rfl, rfl, hF, hW⟩ hL hm K hK
        have hb3 : zB 3 = false := by simpa using hL
        have hb0 : zB 0 = true := mt 0 hm (by kernel_rfl)
        have hb2 : zB 2 = true := mt 2 hm (by kernel_rfl)
        have e0 : zS 21 = .int .i64 (k : Int) := hF 0 _ rfl hb0
        have e2 : zS 23 = .int .i64 (kk : Int) := hF 2 _ rfl hb2
        clear hL hm
        simp only [pE]
        simp only [e0, e2]
        go_simp
        exact hK.out _ _ ⟨ups zB [3], upv _ _ zS [3, 2, 0], rfl, by kernel_rfl, rk hF rfl, hW⟩
       refine StepsI.cons rfl ?_ ?_
       ·rintro L zA va ⟨zB, zS, rfl, rfl, hF, hW⟩ hL hm K hK
        have hb4 : zB 4 = false := by simpa using hL
        have hb3 : zB 3 = true := mt 3 hm (by kernel_rfl)
        have e3 : zS 24 = .bool true := hF 3 _ rfl hb3
        clear hL hm
        simp only [pE]
        simp only [e3]
        go_simp
        exact hK.out _ _ ⟨ups zB [4], upv _ _ zS [4, 3], rfl, by kernel_rfl, rk hF rfl, hW⟩
       refine StepsI.cons rfl ?_ ?_
       ·rintro L zA va ⟨zB, zS, rfl, rfl, hF, hW⟩ hL hm K hK
        have hb5 : zB 5 = false := by simpa using hL
        have hb4 : zB 4 = true := mt 4 hm (by kernel_rfl)
        have e4 : zS 25 = .bool true := hF 4 _ rfl hb4
        clear hL hm
        simp only [pE]
        simp only [e4]
        go_simp
        exact hK.out _ _ ⟨ups zB [5], upv _ _ zS [5, 4], rfl, by kernel_rfl, rk hF rfl, hW⟩
       refine StepsI.cons rfl ?_ ?_
       ·rintro L zA va ⟨zB, zS, rfl, rfl, hF, hW⟩ hL hm K hK
        have hb6 : zB 6 = false := by simpa using hL
        have hb4 : zB 4 = true := mt 4 hm (by kernel_rfl)
        have e4 : zS 25 = .bool true := hF 4 _ rfl hb4
        clear hL hm
        simp only [pE]
        simp only [e4]
        go_simp
        exact hK.out _ _ ⟨ups zB [6], upv _ _ zS [6, 4], rfl, by kernel_rfl, rk hF rfl, hW⟩
       refine StepsI.cons rfl ?_ ?_
       ·rintro L zA va ⟨zB, zS, rfl, rfl, hF, hW⟩ hL hm K hK
        have hb7 : zB 7 = false := by simpa using hL
        have hb4 : zB 4 = true := mt 4 hm (by kernel_rfl)
        have hb5 : zB 5 = true := mt 5 hm (by kernel_rfl)
        have hb6 : zB 6 = true := mt 6 hm (by kernel_rfl)
        have e4 : zS 25 = .bool true := hF 4 _ rfl hb4
        have e5 : zS 26 = .slice (some ⟨go, 0, none⟩) kk c := hF 5 _ rfl hb5
        have e6 : zS 27 = .int .i64 (k : Int) := hF 6 _ rfl hb6
        clear hL hm
        simp only [pE]
        simp only [e4, e5, e6]
        go_simp
        exact hK.out _ _ ⟨ups zB [7], upv _ _ zS [7, 6, 5, 4], rfl, by kernel_rfl, rk hF rfl, hW⟩
       refine StepsI.cons rfl ?_ ?_
       ·rintro L zA va ⟨zB, zS, rfl, rfl, hF, hW⟩ hL hm K hK
        have hb8 : zB 8 = false := by simpa using hL
        have hb4 : zB 4 = true := mt 4 hm (by kernel_rfl)
        have hb7 : zB 7 = true := mt 7 hm (by kernel_rfl)
        have e4 : zS 25 = .bool true := hF 4 _ rfl hb4
        have e7 : zS 28 = .pointer (some ⟨go, k * 2, none⟩) := hF 7 _ rfl hb7
        clear hL hm
        simp only [pE]
        simp only [e4, e7]
        obtain ⟨p0, p1⟩ := hcO _ hW
        go_simp
        exact hK.out _ _ ⟨ups zB [8], upv _ _ zS [8, 7, 4], rfl, by kernel_rfl, rk hF rfl, hW⟩
       refine StepsI.cons rfl ?_ ?_
       ·rintro L zA va ⟨zB, zS, rfl, rfl, hF, hW⟩ hL hm K hK
        have hb9 : zB 9 = false := by simpa using hL
        have hb4 : zB 4 = true := mt 4 hm (by kernel_rfl)
        have e4 : zS 25 = .bool true := hF 4 _ rfl hb4
        clear hL hm
        simp only [pE]
        simp only [e4]
        go_simp
        exact hK.out _ _ ⟨ups zB [9], upv _ _ zS [9, 4], rfl, by kernel_rfl, rk hF rfl, hW⟩
       refine StepsI.cons rfl ?_ ?_
       ·rintro L zA va ⟨zB, zS, rfl, rfl, hF, hW⟩ hL hm K hK
        have hb10 : zB 10 = false := by simpa using hL
        have hb4 : zB 4 = true := mt 4 hm (by kernel_rfl)
        have e4 : zS 25 = .bool true := hF 4 _ rfl hb4
        clear hL hm
        simp only [pE]
        simp only [e4]
        go_simp
        exact hK.out _ _ ⟨ups zB [10], upv _ _ zS [10, 4], rfl, by kernel_rfl, rk hF rfl, hW⟩
       refine StepsI.cons rfl ?_ ?_
       ·rintro L zA va ⟨zB, zS, rfl, rfl, hF, hW⟩ hL hm K hK
        have hb11 : zB 11 = false := by simpa using hL
        have hb4 : zB 4 = true := mt 4 hm (by kernel_rfl)
        have hb9 : zB 9 = true := mt 9 hm (by kernel_rfl)
        have hb10 : zB 10 = true := mt 10 hm (by kernel_rfl)
        have e4 : zS 25 = .bool true := hF 4 _ rfl hb4
        have e9 : zS 30 = .slice (some ⟨b, off, none⟩) l.length cl := hF 9 _ rfl hb9
        have e10 : zS 31 = .int .i64 (i : Int) := hF 10 _ rfl hb10
        clear hL hm
        simp only [pE]
        simp only [e4, e9, e10]
        go_simp
        exact hK.out _ _ ⟨ups zB [11], upv _ _ zS [11, 10, 9, 4], rfl, by kernel_rfl, rk hF rfl, hW⟩
       refine StepsI.cons rfl ?_ ?_
       ·rintro L zA va ⟨zB, zS, rfl, rfl, hF, hW⟩ hL hm K hK
        have hb12 : zB 12 = false := by simpa using hL
        have hb4 : zB 4 = true := mt 4 hm (by kernel_rfl)
        have hb11 : zB 11 = true := mt 11 hm (by kernel_rfl)
        have e4 : zS 25 = .bool true := hF 4 _ rfl hb4
        have e11 : zS 32 = .pointer (some ⟨b, off + i * 2, none⟩) := hF 11 _ rfl hb11
        clear hL hm
        simp only [pE]
        simp only [e4, e11]
        obtain ⟨p0, p1⟩ := hcL _ hW
        go_simp
        exact hK.out _ _ ⟨ups zB [12], upv _ _ zS [12, 11, 4], rfl, by kernel_rfl, rk hF rfl, hW⟩
       refine StepsI.cons rfl ?_ ?_
       ·rintro L zA va ⟨zB, zS, rfl, rfl, hF, hW⟩ hL hm K hK
        have hb13 : zB 13 = false := by simpa using hL
        have hb4 : zB 4 = true := mt 4 hm (by kernel_rfl)
        have hb8 : zB 8 = true := mt 8 hm (by kernel_rfl)
        have hb12 : zB 12 = true := mt 12 hm (by kernel_rfl)
        have e4 : zS 25 = .bool true := hF 4 _ rfl hb4
        have e8 : zS 29 = .agg #[.int .i64 y.1, .int .i64 y.2] := hF 8 _ rfl hb8
        have e12 : zS 33 = .agg #[.int .i64 x.1, .int .i64 x.2] := hF 12 _ rfl hb12
        clear hL hm
        simp only [pE]
        simp only [e4, e8, e12]
        go_simp
        refine (sSymLess_any y.1 y.2 x.1 x.2 _).mono ?_
        rintro e va2 ⟨rfl, hb⟩
        rw [HLE.out]
        go_wp2_with fail
        exact hK.out _ _ ⟨ups zB [13], upv _ _ zS [13, 12, 8, 4], rfl, by kernel_rfl, rk hF rfl, below_step hW hb⟩
       refine StepsI.cons rfl ?_ ?_
       ·rintro L zA va ⟨zB, zS, rfl, rfl, hF, hW⟩ hL hm K hK
        have hb14 : zB 14 = false := by simpa using hL
        have hb4 : zB 4 = true := mt 4 hm (by kernel_rfl)
        have hb13 : zB 13 = true := mt 13 hm (by kernel_rfl)
        have e4 : zS 25 = .bool true := hF 4 _ rfl hb4
        have e13 : zS 34 = .bool false := hF 13 _ rfl hb13
        clear hL hm
        simp only [pE]
        simp only [e4, e13]
        go_simp
        exact hK.out _ _ ⟨ups zB [14], upv _ _ zS [14, 13, 4], rfl, by kernel_rfl, rk hF rfl, hW⟩
       exact StepsI.nil (by kernel_rfl)
      ·rintro L zA va ⟨zB, zS, rfl, rfl, hF, hW⟩ hr
       have hu := all_up (by kernel_rfl) (N := 15) (by kernel_rfl) hr
       have hb0 : zB 0 = true := by simpa using hu 0 (by decide)
       have hb1 : zB 1 = true := by simpa using hu 1 (by decide)
       have hb2 : zB 2 = true := by simpa using hu 2 (by decide)
       have hb3 : zB 3 = true := by simpa using hu 3 (by decide)
       have hb4 : zB 4 = true := by simpa using hu 4 (by decide)
       have hb5 : zB 5 = true := by simpa using hu 5 (by decide)
       have hb6 : zB 6 = true := by simpa using hu 6 (by decide)
       have hb7 : zB 7 = true := by simpa using hu 7 (by decide)
       have hb8 : zB 8 = true := by simpa using hu 8 (by decide)
       have hb9 : zB 9 = true := by simpa using hu 9 (by decide)
       have hb10 : zB 10 = true := by simpa using hu 10 (by decide)
       have hb11 : zB 11 = true := by simpa using hu 11 (by decide)
       have hb12 : zB 12 = true := by simpa using hu 12 (by decide)
       have hb13 : zB 13 = true := by simpa using hu 13 (by decide)
       have hb14 : zB 14 = true := by simpa using hu 14 (by decide)
       have e0 : zS 21 = .int .i64 (k : Int) := hF 0 _ rfl hb0
       have e1 : zS 22 = .slice (some ⟨go, 0, none⟩) kk c := hF 1 _ rfl hb1
       have e2 : zS 23 = .int .i64 (kk : Int) := hF 2 _ rfl hb2
       have e3 : zS 24 = .bool true := hF 3 _ rfl hb3
       have e4 : zS 25 = .bool true := hF 4 _ rfl hb4
       have e5 : zS 26 = .slice (some ⟨go, 0, none⟩) kk c := hF 5 _ rfl hb5
       have e6 : zS 27 = .int .i64 (k : Int) := hF 6 _ rfl hb6
       have e7 : zS 28 = .pointer (some ⟨go, k * 2, none⟩) := hF 7 _ rfl hb7
       have e8 : zS 29 = .agg #[.int .i64 y.1, .int .i64 y.2] := hF 8 _ rfl hb8
       have e9 : zS 30 = .slice (some ⟨b, off, none⟩) l.length cl := hF 9 _ rfl hb9
       have e10 : zS 31 = .int .i64 (i : Int) := hF 10 _ rfl hb10
       have e11 : zS 32 = .pointer (some ⟨b, off + i * 2, none⟩) := hF 11 _ rfl hb11
       have e12 : zS 33 = .agg #[.int .i64 x.1, .int .i64 x.2] := hF 12 _ rfl hb12
       have e13 : zS 34 = .bool false := hF 13 _ rfl hb13
       have e14 : zS 35 = .bool false := hF 14 _ rfl hb14
       clear hu hr hF
       simp only [pE]
       simp only [e0, e1, e2, e3, e4, e5, e6, e7, e8, e9, e10, e11, e12, e13, e14]
       clear e0 e1 e2 e3 e4 e5 e6 e7 e8 e9 e10 e11 e12 e13 e14
       clear hb0 hb1 hb2 hb3 hb4 hb5 hb6 hb7 hb8 hb9 hb10 hb11 hb12 hb13 hb14
       clear zB zS
       have HBV : Hid (Below w1.heap.size w1 va) := mkHid (below_step HBX.out hW)
       clear hW hcL
       clear hcO
       have HE : Hid (setY (l.take (i + 1)) = O.take k ++ x :: O.drop k) := mkHid (by rw [setY_next HX.out, HOO.out]; exact ins_at k (by rw [HKK.out]; exact hk) HAL.out HNK.out HNO.out)
       have HOV := mkHid (OW1.out.below HBV.out)
       have HBW := mkHid (below_step BE1.out HBV.out)
       have HCV : Hid (va.cell? ⟨b, off + i * 2, none⟩ = some (.int .i64 x.1) ∧ va.cell? ⟨b, off + i * 2 + 1, none⟩ = some (.int .i64 x.2) ∧ b < va.heap.size) := mkHid ⟨((bcell HBV.out).1 _ _ HC1.out.2.2).trans HC1.out.1, ((bcell HBV.out).1 _ _ HC1.out.2.2).trans HC1.out.2.1, Nat.lt_of_lt_of_le HC1.out.2.2 HBV.out.size⟩
       clear OW1 BE1 HC1 HAL HNK
       have HFN : Hid (Own eY 49 (va.alloc (.cells #[] 49)) va.heap.size (.slice (some ⟨va.heap.size, 0, none⟩) 0 0) []) := mkHid (fresh_y (Nat.le_refl _) (by have := heap_alloc_new va (.cells #[] 49); simpa using this))
       have HAO : Hid (At eY (va.alloc (.cells #[] 49)) (some ⟨go, 0, none⟩) O) := mkHid (HOV.out.at.below (bl_alloc (Below.refl _ _) _))
       have hkc : (k : Int) ≤ (c : Int) := by omega
       go_wp2_with (at_builtin; refine append_y _ rfl _ _ rfl va.heap.size va.heap.size 0 0 [] rfl rfl HFN.out (some ⟨go, 0, none⟩) c k (O.take k) rfl (by simp [HKK.out]; omega) (HAO.out.take k) (by omega) (by simp) ?_)
       intro g1 c1 w2 hown1 hgr1
       have O1 := mkHid hown1
       have HB2 : Hid (Below va.heap.size va w2) := mkHid (((Below.refl _ _).alloc (Nat.le_refl _) _).grown hgr1 (by simp) (fun q e => by cases e; exact Nat.le_refl _))
       have HT1 : Hid ((O.take k).length = k) := mkHid (by simp [HKK.out]; omega)
       have hz2 := HB2.out.size
       have c0 := ((bcell HB2.out).1 _ _ HCV.out.2.2).trans HCV.out.1
       have c1' := ((bcell HB2.out).1 _ _ HCV.out.2.2).trans HCV.out.2.1
       have HA1 : Hid (At eY (w2.alloc (.cells #[.int .i64 x.1, .int .i64 x.2] 49)) (some ⟨w2.heap.size, 0, none⟩) [x]) := mkHid (.inr ⟨_, _, rfl, fun i y hy j v hv => by
        cases i with
        | zero => simp at hy; subst hy; have := two_new w2 (.int .i64 x.1) (.int .i64 x.2) 65 j v hv; rw [WideShapes.add_plain] at this; simpa using this
        | succ i => simp at hy⟩)
       clear hown1 hgr1 HFN HAO
       go_wp2_with (at_builtin; refine append_y _ rfl _ _ rfl va.heap.size g1 c1 k (O.take k) rfl HT1.out (O1.out.below (bl_alloc (Below.refl _ _) _)) (some ⟨w2.heap.size, 0, none⟩) 1 1 [x] rfl rfl HA1.out (by omega) (by simp; omega) ?_)
       intro g2 c2 w3 hown2 hgr2
       have O2 := mkHid hown2
       have HB3 : Hid (Below va.heap.size va w3) := mkHid ((HB2.out.alloc HB2.out.size _).grown hgr2 (by simp; omega) (fun q e => by cases e; exact (O1.out.lt rfl).1))
       have HT2 : Hid ((O.take k ++ [x]).length = k + 1) := mkHid (by rw [List.length_append, HT1.out]; rfl)
       have HAO3 : Hid (At eY w3 (some ⟨go, 0, none⟩) O) := mkHid (HOV.out.at.below HB3.out)
       have HAD : Hid (At eY w3 (some ⟨go, k * 2, none⟩) (O.drop k)) := mkHid (by have h := HAO3.out.dropY k; rw [Nat.zero_add] at h; exact h)
       have hz3 := HB3.out.size
       clear hown2 hgr2 c0 c1' HA1
       go_wp2_with (at_builtin; refine append_y _ rfl _ _ rfl va.heap.size g2 c2 (k + 1) (O.take k ++ [x]) rfl HT2.out O2.out _ _ (kk - k) (O.drop k) rfl (by simp [HKK.out]) HAD.out (by omega) hz3 ?_)
       intro g3 c3 w4 hown3 hgr3
       have HB4 : Hid (Below va.heap.size va w4) := mkHid (HB3.out.grown hgr3 hz3 (fun q e => by cases e; exact (O2.out.lt rfl).1))
       have HK3 : Hid ((O.take k ++ x :: O.drop k).length = k + 1 + (kk - k)) := mkHid (by simp [HKK.out]; omega)
       have O3 : Hid (Own eY 49 w4 w.heap.size (.slice (some ⟨g3, 0, none⟩) (k + 1 + (kk - k)) c3) (O.take k ++ x :: O.drop k)) := mkHid (Own.mono hown3 HBW.out.size)
       have HB5 := mkHid (below_step HBW.out HB4.out)
       clear hown3 hgr3
       go_wp2
       go_roundg (l.length - (i + 1))
       case measure => omega
       case rel => exact ⟨i + 1, g3, c3, by omega, by go_num, Nat.le_refl _, by rw [HE.out, HK3.out], by rw [HE.out, HK3.out]; exact O3.out, HB5.out⟩
     ·have HLE := mkHid hle
      have HA2 : Hid (∀ (j : Nat) (z : Y), j < k + 1 → O[j]? = some z → LtY z x) := mkHid fun j z hj hz => by
       rcases Nat.lt_succ_iff_lt_or_eq.1 hj with h | h
       ·exact HAL.out j z h hz
       ·subst h; rw [HY.out] at hz; cases hz; exact (lessB_iff _ _).1 hle
      clear hle
      go_wp2_with fail
      refine wp_region_inv2 (fun zA0 L zA va => ∃ (zB : Nat → Bool) (zS : Nat → Value), L = #[zB 0, zB 1, zB 2, zB 3, zB 4, zB 5, zB 6, zB 7, zB 8, zB 9, zB 10, zB 11, zB 12, zB 13, zB 14] ∧ zA = puts zA0 [(21, zS 21), (22, zS 22), (23, zS 23), (24, zS 24), (25, zS 25), (26, zS 26), (27, zS 27), (28, zS 28), (29, zS 29), (30, zS 30), (31, zS 31), (32, zS 32), (33, zS 33), (34, zS 34), (35, zS 35)] ∧ FF 21 [.int .i64 (k : Int), .slice (some ⟨go, 0, none⟩) kk c, .int .i64 (kk : Int), .bool true, .bool true, .slice (some ⟨go, 0, none⟩) kk c, .int .i64 (k : Int), .pointer (some ⟨go, k * 2, none⟩), .agg #[.int .i64 y.1, .int .i64 y.2], .slice (some ⟨b, off, none⟩) l.length cl, .int .i64 (i : Int), .pointer (some ⟨b, off + i * 2, none⟩), .agg #[.int .i64 x.1, .int .i64 x.2], .bool true, .bool true] zB zS ∧ Below wr.heap.size wr va) (by kernel_rfl) ?_ ?_ ?_
      ·exact ⟨fun _ => false, fun zd => [u21, u22, u23, u24, u25, u26, u27, u28, u29, u30, u31, u32, u33, u34, u35].getD (zd - 21) undef, rfl, by kernel_rfl, ff0, (Below.refl _ _).drew⟩
      ·refine StepsI.cons rfl ?_ ?_
       ·rintro L zA va ⟨zB, zS, rfl, rfl, hF, hW⟩ hL hm K hK
        have hb0 : zB 0 = false := by simpa using hL
        clear hL hm
        simp only [pE]
        go_simp
        exact hK.out _ _ ⟨ups zB [0], upv _ _ zS [0], rfl, by kernel_rfl, rk hF rfl, hW⟩
       refine StepsI.cons rfl ?_ ?_
       ·rintro L zA va ⟨zB, zS, rfl, rfl, hF, hW⟩ hL hm K hK
        have hb1 : zB 1 = false := by simpa using hL
        clear hL hm
        simp only [pE]
        go_simp
        exact hK.out _ _ ⟨ups zB [1], upv _ _ zS [1], rfl, by kernel_rfl, rk hF rfl, hW⟩
       refine StepsI.cons rfl ?_ ?_
       ·rintro L zA va ⟨zB, zS, rfl, rfl, hF, hW⟩ hL hm K hK
        have hb2 : zB 2 = false := by simpa using hL
        have hb1 : zB 1 = true := mt 1 hm (by kernel_rfl)
        have e1 : zS 22 = .slice (some ⟨go, 0, none⟩) kk c := hF 1 _ rfl hb1
        clear hL hm
        simp only [pE]
        simp only [e1]
        go_simp
        exact hK.out _ _ ⟨ups zB [2], upv _ _ zS [2, 1], rfl, by kernel_rfl, rk hF rfl, hW⟩
       refine StepsI.cons rfl ?_ ?_
       ·rintro L zA va ⟨zB, zS, rfl, rfl, hF, hW⟩ hL hm K hK
        have hb3 : zB 3 = false := by simpa using hL
        have hb0 : zB 0 = true := mt 0 hm (by kernel_rfl)
        have hb2 : zB 2 = true := mt 2 hm (by kernel_rfl)
        have e0 : zS 21 = .int .i64 (k : Int) := hF 0 _ rfl hb0
        have e2 : zS 23 = .int .i64 (kk : Int) := hF 2 _ rfl hb2
        clear hL hm
        simp only [pE]
        simp only [e0, e2]
        go_simp
        exact hK.out _ _ ⟨ups zB [3], upv _ _ zS [3, 2, 0], rfl, by kernel_rfl, rk hF rfl, hW⟩
       refine StepsI.cons rfl ?_ ?_
       ·rintro L zA va ⟨zB, zS, rfl, rfl, hF, hW⟩ hL hm K hK
        have hb4 : zB 4 = false := by simpa using hL
        have hb3 : zB 3 = true := mt 3 hm (by kernel_rfl)
        have e3 : zS 24 = .bool true := hF 3 _ rfl hb3
        clear hL hm
        simp only [pE]
        simp only [e3]
        go_simp
        exact hK.out _ _ ⟨ups zB [4], upv _ _ zS [4, 3], rfl, by kernel_rfl, rk hF rfl, hW⟩
       refine StepsI.cons rfl ?_ ?_
       ·rintro L zA va ⟨zB, zS, rfl, rfl, hF, hW⟩ hL hm K hK
        have hb5 : zB 5 = false := by simpa using hL
        have hb4 : zB 4 = true := mt 4 hm (by kernel_rfl)
        have e4 : zS 25 = .bool true := hF 4 _ rfl hb4
        clear hL hm
        simp only [pE]
        simp only [e4]
        go_simp
        exact hK.out _ _ ⟨ups zB [5], upv _ _ zS [5, 4], rfl, by kernel_rfl, rk hF rfl, hW⟩
       refine StepsI.cons rfl ?_ ?_
       ·rintro L zA va ⟨zB, zS, rfl, rfl, hF, hW⟩ hL hm K hK
        have hb6 : zB 6 = false := by simpa using hL
        have hb4 : zB 4 = true := mt 4 hm (by kernel_rfl)
        have e4 : zS 25 = .bool true := hF 4 _ rfl hb4
        clear hL hm
        simp only [pE]
        simp only [e4]
        go_simp
        exact hK.out _ _ ⟨ups zB [6], upv _ _ zS [6, 4], rfl, by kernel_rfl, rk hF rfl, hW⟩
       refine StepsI.cons rfl ?_ ?_
       ·rintro L zA va ⟨zB, zS, rfl, rfl, hF, hW⟩ hL hm K hK
        have hb7 : zB 7 = false := by simpa using hL
        have hb4 : zB 4 = true := mt 4 hm (by kernel_rfl)
        have hb5 : zB 5 = true := mt 5 hm (by kernel_rfl)
        have hb6 : zB 6 = true := mt 6 hm (by kernel_rfl)
        have e4 : zS 25 = .bool true := hF 4 _ rfl hb4
        have e5 : zS 26 = .slice (some ⟨go, 0, none⟩) kk c := hF 5 _ rfl hb5
        have e6 : zS 27 = .int .i64 (k : Int) := hF 6 _ rfl hb6
        clear hL hm
        simp only [pE]
        simp only [e4, e5, e6]
        go_simp
        exact hK.out _ _ ⟨ups zB [7], upv _ _ zS [7, 6, 5, 4], rfl, by kernel_rfl, rk hF rfl, hW⟩
       refine StepsI.cons rfl ?_ ?_
       ·rintro L zA va ⟨zB, zS, rfl, rfl, hF, hW⟩ hL hm K hK
        have hb8 : zB 8 = false := by simpa using hL
        have hb4 : zB 4 = true := mt 4 hm (by kernel_rfl)
        have hb7 : zB 7 = true := mt 7 hm (by kernel_rfl)
        have e4 : zS 25 = .bool true := hF 4 _ rfl hb4
        have e7 : zS 28 = .pointer (some ⟨go, k * 2, none⟩) := hF 7 _ rfl hb7
        clear hL hm
        simp only [pE]
        simp only [e4, e7]
        obtain ⟨p0, p1⟩ := hcO _ hW
        go_simp
        exact hK.out _ _ ⟨ups zB [8], upv _ _ zS [8, 7, 4], rfl, by kernel_rfl, rk hF rfl, hW⟩
       refine StepsI.cons rfl ?_ ?_
       ·rintro L zA va ⟨zB, zS, rfl, rfl, hF, hW⟩ hL hm K hK
        have hb9 : zB 9 = false := by simpa using hL
        have hb4 : zB 4 = true := mt 4 hm (by kernel_rfl)
        have e4 : zS 25 = .bool true := hF 4 _ rfl hb4
        clear hL hm
        simp only [pE]
        simp only [e4]
        go_simp
        exact hK.out _ _ ⟨ups zB [9], upv _ _ zS [9, 4], rfl, by kernel_rfl, rk hF rfl, hW⟩
       refine StepsI.cons rfl ?_ ?_
       ·rintro L zA va ⟨zB, zS, rfl, rfl, hF, hW⟩ hL hm K hK
        have hb10 : zB 10 = false := by simpa using hL
        have hb4 : zB 4 = true := mt 4 hm (by kernel_rfl)
        have e4 : zS 25 = .bool true := hF 4 _ rfl hb4
        clear hL hm
        simp only [pE]
        simp only [e4]
        go_simp
        exact hK.out _ _ ⟨ups zB [10], upv _ _ zS [10, 4], rfl, by kernel_rfl, rk hF rfl, hW⟩
       refine StepsI.cons rfl ?_ ?_
       ·rintro L zA va ⟨zB, zS, rfl, rfl, hF, hW⟩ hL hm K hK
        have hb11 : zB 11 = false := by simpa using hL
        have hb4 : zB 4 = true := mt 4 hm (by kernel_rfl)
        have hb9 : zB 9 = true := mt 9 hm (by kernel_rfl)
        have hb10 : zB 10 = true := mt 10 hm (by kernel_rfl)
        have e4 : zS 25 = .bool true := hF 4 _ rfl hb4
        have e9 : zS 30 = .slice (some ⟨b, off, none⟩) l.length cl := hF 9 _ rfl hb9
        have e10 : zS 31 = .int .i64 (i : Int) := hF 10 _ rfl hb10
        clear hL hm
        simp only [pE]
        simp only [e4, e9, e10]
        go_simp
        exact hK.out _ _ ⟨ups zB [11], upv _ _ zS [11, 10, 9, 4], rfl, by kernel_rfl, rk hF rfl, hW⟩
       refine StepsI.cons rfl ?_ ?_
       ·rintro L zA va ⟨zB, zS, rfl, rfl, hF, hW⟩ hL hm K hK
        have hb12 : zB 12 = false := by simpa using hL
        have hb4 : zB 4 = true := mt 4 hm (by kernel_rfl)
        have hb11 : zB 11 = true := mt 11 hm (by kernel_rfl)
        have e4 : zS 25 = .bool true := hF 4 _ rfl hb4
        have e11 : zS 32 = .pointer (some ⟨b, off + i * 2, none⟩) := hF 11 _ rfl hb11
        clear hL hm
        simp only [pE]
        simp only [e4, e11]
        obtain ⟨p0, p1⟩ := hcL _ hW
        go_simp
        exact hK.out _ _ ⟨ups zB [12], upv _ _ zS [12, 11, 4], rfl, by kernel_rfl, rk hF rfl, hW⟩
       refine StepsI.cons rfl ?_ ?_
       ·rintro L zA va ⟨zB, zS, rfl, rfl, hF, hW⟩ hL hm K hK
        have hb13 : zB 13 = false := by simpa using hL
        have hb4 : zB 4 = true := mt 4 hm (by kernel_rfl)
        have hb8 : zB 8 = true := mt 8 hm (by kernel_rfl)
        have hb12 : zB 12 = true := mt 12 hm (by kernel_rfl)
        have e4 : zS 25 = .bool true := hF 4 _ rfl hb4
        have e8 : zS 29 = .agg #[.int .i64 y.1, .int .i64 y.2] := hF 8 _ rfl hb8
        have e12 : zS 33 = .agg #[.int .i64 x.1, .int .i64 x.2] := hF 12 _ rfl hb12
        clear hL hm
        simp only [pE]
        simp only [e4, e8, e12]
        go_simp
        refine (sSymLess_any y.1 y.2 x.1 x.2 _).mono ?_
        rintro e va2 ⟨rfl, hb⟩
        rw [HLE.out]
        go_wp2_with fail
        exact hK.out _ _ ⟨ups zB [13], upv _ _ zS [13, 12, 8, 4], rfl, by kernel_rfl, rk hF rfl, below_step hW hb⟩
       refine StepsI.cons rfl ?_ ?_
       ·rintro L zA va ⟨zB, zS, rfl, rfl, hF, hW⟩ hL hm K hK
        have hb14 : zB 14 = false := by simpa using hL
        have hb4 : zB 4 = true := mt 4 hm (by kernel_rfl)
        have hb13 : zB 13 = true := mt 13 hm (by kernel_rfl)
        have e4 : zS 25 = .bool true := hF 4 _ rfl hb4
        have e13 : zS 34 = .bool true := hF 13 _ rfl hb13
        clear hL hm
        simp only [pE]
        simp only [e4, e13]
        go_simp
        exact hK.out _ _ ⟨ups zB [14], upv _ _ zS [14, 13, 4], rfl, by kernel_rfl, rk hF rfl, hW⟩
       exact StepsI.nil (by kernel_rfl)
      ·rintro L zA va ⟨zB, zS, rfl, rfl, hF, hW⟩ hr
       have hu := all_up (by kernel_rfl) (N := 15) (by kernel_rfl) hr
       have hb0 : zB 0 = true := by simpa using hu 0 (by decide)
       have hb1 : zB 1 = true := by simpa using hu 1 (by decide)
       have hb2 : zB 2 = true := by simpa using hu 2 (by decide)
       have hb3 : zB 3 = true := by simpa using hu 3 (by decide)
       have hb4 : zB 4 = true := by simpa using hu 4 (by decide)
       have hb5 : zB 5 = true := by simpa using hu 5 (by decide)
       have hb6 : zB 6 = true := by simpa using hu 6 (by decide)
       have hb7 : zB 7 = true := by simpa using hu 7 (by decide)
       have hb8 : zB 8 = true := by simpa using hu 8 (by decide)
       have hb9 : zB 9 = true := by simpa using hu 9 (by decide)
       have hb10 : zB 10 = true := by simpa using hu 10 (by decide)
       have hb11 : zB 11 = true := by simpa using hu 11 (by decide)
       have hb12 : zB 12 = true := by simpa using hu 12 (by decide)
       have hb13 : zB 13 = true := by simpa using hu 13 (by decide)
       have hb14 : zB 14 = true := by simpa using hu 14 (by decide)
       have e0 : zS 21 = .int .i64 (k : Int) := hF 0 _ rfl hb0
       have e1 : zS 22 = .slice (some ⟨go, 0, none⟩) kk c := hF 1 _ rfl hb1
       have e2 : zS 23 = .int .i64 (kk : Int) := hF 2 _ rfl hb2
       have e3 : zS 24 = .bool true := hF 3 _ rfl hb3
       have e4 : zS 25 = .bool true := hF 4 _ rfl hb4
       have e5 : zS 26 = .slice (some ⟨go, 0, none⟩) kk c := hF 5 _ rfl hb5
       have e6 : zS 27 = .int .i64 (k : Int) := hF 6 _ rfl hb6
       have e7 : zS 28 = .pointer (some ⟨go, k * 2, none⟩) := hF 7 _ rfl hb7
       have e8 : zS 29 = .agg #[.int .i64 y.1, .int .i64 y.2] := hF 8 _ rfl hb8
       have e9 : zS 30 = .slice (some ⟨b, off, none⟩) l.length cl := hF 9 _ rfl hb9
       have e10 : zS 31 = .int .i64 (i : Int) := hF 10 _ rfl hb10
       have e11 : zS 32 = .pointer (some ⟨b, off + i * 2, none⟩) := hF 11 _ rfl hb11
       have e12 : zS 33 = .agg #[.int .i64 x.1, .int .i64 x.2] := hF 12 _ rfl hb12
       have e13 : zS 34 = .bool true := hF 13 _ rfl hb13
       have e14 : zS 35 = .bool true := hF 14 _ rfl hb14
       clear hu hr hF
       simp only [pE]
       simp only [e0, e1, e2, e3, e4, e5, e6, e7, e8, e9, e10, e11, e12, e13, e14]
       clear e0 e1 e2 e3 e4 e5 e6 e7 e8 e9 e10 e11 e12 e13 e14
       clear hb0 hb1 hb2 hb3 hb4 hb5 hb6 hb7 hb8 hb9 hb10 hb11 hb12 hb13 hb14
       clear zB zS
       have HB2 : Hid (Below w1.heap.size w1 va) := mkHid (below_step HBX.out hW)
       clear hW
       go_wp2
       go_roundg (kk - (k + 1))
       case measure => omega
       case rel => exact ⟨k + 1, by omega, by go_num, Nat.le_refl _, HA2.out, HB2.out⟩
    ·have k1 : ¬ (k : Int) < (kk : Int) := by omega
     have HNK : Hid (∀ z, O[k]? = some z → ¬ LtY z x) := mkHid fun z hz => by have := (List.getElem?_eq_some_iff.1 hz).1; have := HKK.out; omega
     go_wp2_with fail
     refine wp_region_inv2 (fun zA0 L zA va => ∃ (zB : Nat → Bool) (zS : Nat → Value), L = #[zB 0, zB 1, zB 2, zB 3, zB 4, zB 5, zB 6, zB 7, zB 8, zB 9, zB 10, zB 11, zB 12, zB 13, zB 14] ∧ zA = puts zA0 [(21, zS 21), (22, zS 22), (23, zS 23), (24, zS 24), (25, zS 25), (26, zS 26), (27, zS 27), (28, zS 28), (29, zS 29), (30, zS 30), (31, zS 31), (32, zS 32), (33, zS 33), (34, zS 34), (35, zS 35)] ∧ FF 21 [.int .i64 (k : Int), .slice (some ⟨go, 0, none⟩) kk c, .int .i64 (kk : Int), .bool false, .bool false, undef, undef, undef, undef, undef, undef, undef, undef, undef, .bool false] zB zS ∧ Below wr.heap.size wr va) (by kernel_rfl) ?_ ?_ ?_
     ·exact ⟨fun _ => false, fun zd => [u21, u22, u23, u24, u25, u26, u27, u28, u29, u30, u31, u32, u33, u34, u35].getD (zd - 21) undef, rfl, by kernel_rfl, ff0, (Below.refl _ _).drew⟩
     ·refine StepsI.cons rfl ?_ ?_
      ·rintro L zA va ⟨zB, zS, rfl, rfl, hF, hW⟩ hL hm K hK
       have hb0 : zB 0 = false := by simpa using hL
       clear hL hm
       simp only [pE]
       go_simp
       exact hK.out _ _ ⟨ups zB [0], upv _ _ zS [0], rfl, by kernel_rfl, rk hF rfl, hW⟩
      refine StepsI.cons rfl ?_ ?_
      ·rintro L zA va ⟨zB, zS, rfl, rfl, hF, hW⟩ hL hm K hK
       have hb1 : zB 1 = false := by simpa using hL
       clear hL hm
       simp only [pE]
       go_simp
       exact hK.out _ _ ⟨ups zB [1], upv _ _ zS [1], rfl, by kernel_rfl, rk hF rfl, hW⟩
      refine StepsI.cons rfl ?_ ?_
      ·rintro L zA va ⟨zB, zS, rfl, rfl, hF, hW⟩ hL hm K hK
       have hb2 : zB 2 = false := by simpa using hL
       have hb1 : zB 1 = true := mt 1 hm (by kernel_rfl)
       have e1 : zS 22 = .slice (some ⟨go, 0, none⟩) kk c := hF 1 _ rfl hb1
       clear hL hm
       simp only [pE]
       simp only [e1]
       go_simp
       exact hK.out _ _ ⟨ups zB [2], upv _ _ zS [2, 1], rfl, by kernel_rfl, rk hF rfl, hW⟩
      refine StepsI.cons rfl ?_ ?_
      ·rintro L zA va ⟨zB, zS, rfl, rfl, hF, hW⟩ hL hm K hK
       have hb3 : zB 3 = false := by simpa using hL
       have hb0 : zB 0 = true := mt 0 hm (by kernel_rfl)
       have hb2 : zB 2 = true := mt 2 hm (by kernel_rfl)
       have e0 : zS 21 = .int .i64 (k : Int) := hF 0 _ rfl hb0
       have e2 : zS 23 = .int .i64 (kk : Int) := hF 2 _ rfl hb2
       clear hL hm
       simp only [pE]
       simp only [e0, e2]
       go_simp
       exact hK.out _ _ ⟨ups zB [3], upv _ _ zS [3, 2, 0], rfl, by kernel_rfl, rk hF rfl, hW⟩
      refine StepsI.cons rfl ?_ ?_
      ·rintro L zA va ⟨zB, zS, rfl, rfl, hF, hW⟩ hL hm K hK
       have hb4 : zB 4 = false := by simpa using hL
       have hb3 : zB 3 = true := mt 3 hm (by kernel_rfl)
       have e3 : zS 24 = .bool false := hF 3 _ rfl hb3
       clear hL hm
       simp only [pE]
       simp only [e3]
       go_simp
       exact hK.out _ _ ⟨ups zB [4], upv _ _ zS [4, 3], rfl, by kernel_rfl, rk hF rfl, hW⟩
      refine StepsI.cons rfl ?_ ?_
      ·rintro L zA va ⟨zB, zS, rfl, rfl, hF, hW⟩ hL hm K hK
       have hb5 : zB 5 = false := by simpa using hL
       have hb4 : zB 4 = true := mt 4 hm (by kernel_rfl)
       have e4 : zS 25 = .bool false := hF 4 _ rfl hb4
       clear hL hm
       simp only [pE]
       simp only [e4]
       rw [if_neg (by exact Bool.false_ne_true)]
       exact hK.out _ _ ⟨ups zB [5], upv _ _ zS [5, 4], rfl, by kernel_rfl, rk hF rfl, hW⟩
      refine StepsI.cons rfl ?_ ?_
      ·rintro L zA va ⟨zB, zS, rfl, rfl, hF, hW⟩ hL hm K hK
       have hb6 : zB 6 = false := by simpa using hL
       have hb4 : zB 4 = true := mt 4 hm (by kernel_rfl)
       have e4 : zS 25 = .bool false := hF 4 _ rfl hb4
       clear hL hm
       simp only [pE]
       simp only [e4]
       rw [if_neg (by exact Bool.false_ne_true)]
       exact hK.out _ _ ⟨ups zB [6], upv _ _ zS [6, 4], rfl, by kernel_rfl, rk hF rfl, hW⟩
      refine StepsI.cons rfl ?_ ?_
      ·rintro L zA va ⟨zB, zS, rfl, rfl, hF, hW⟩ hL hm K hK
       have hb7 : zB 7 = false := by simpa using hL
       have hb4 : zB 4 = true := mt 4 hm (by kernel_rfl)
       have e4 : zS 25 = .bool false := hF 4 _ rfl hb4
       clear hL hm
       simp only [pE]
       simp only [e4]
       rw [if_neg (by exact Bool.false_ne_true)]
       exact hK.out _ _ ⟨ups zB [7], upv _ _ zS [7, 4], rfl, by kernel_rfl, rk hF rfl, hW⟩
      refine StepsI.cons rfl ?_ ?_
      ·rintro L zA va ⟨zB, zS, rfl, rfl, hF, hW⟩ hL hm K hK
       have hb8 : zB 8 = false := by simpa using hL
       have hb4 : zB 4 = true := mt 4 hm (by kernel_rfl)
       have e4 : zS 25 = .bool false := hF 4 _ rfl hb4
       clear hL hm
       simp only [pE]
       simp only [e4]
       rw [if_neg (by exact Bool.false_ne_true)]
       exact hK.out _ _ ⟨ups zB [8], upv _ _ zS [8, 4], rfl, by kernel_rfl, rk hF rfl, hW⟩
      refine StepsI.cons rfl ?_ ?_
      ·rintro L zA va ⟨zB, zS, rfl, rfl, hF, hW⟩ hL hm K hK
       have hb9 : zB 9 = false := by simpa using hL
       have hb4 : zB 4 = true := mt 4 hm (by kernel_rfl)
       have e4 : zS 25 = .bool false := hF 4 _ rfl hb4
       clear hL hm
       simp only [pE]
       simp only [e4]
       rw [if_neg (by exact Bool.false_ne_true)]
       exact hK.out _ _ ⟨ups zB [9], upv _ _ zS [9, 4], rfl, by kernel_rfl, rk hF rfl, hW⟩
      refine StepsI.cons rfl ?_ ?_
      ·rintro L zA va ⟨zB, zS, rfl, rfl, hF, hW⟩ hL hm K hK
       have hb10 : zB 10 = false := by simpa using hL
       have hb4 : zB 4 = true := mt 4 hm (by kernel_rfl)
       have e4 : zS 25 = .bool false := hF 4 _ rfl hb4
       clear hL hm
       simp only [pE]
       simp only [e4]
       rw [if_neg (by exact Bool.false_ne_true)]
       exact hK.out _ _ ⟨ups zB [10], upv _ _ zS [10, 4], rfl, by kernel_rfl, rk hF rfl, hW⟩
      refine StepsI.cons rfl ?_ ?_
      ·rintro L zA va ⟨zB, zS, rfl, rfl, hF, hW⟩ hL hm K hK
       have hb11 : zB 11 = false := by simpa using hL
       have hb4 : zB 4 = true := mt 4 hm (by kernel_rfl)
       have e4 : zS 25 = .bool false := hF 4 _ rfl hb4
       clear hL hm
       simp only [pE]
       simp only [e4]
       rw [if_neg (by exact Bool.false_ne_true)]
       exact hK.out _ _ ⟨ups zB [11], upv _ _ zS [11, 4], rfl, by kernel_rfl, rk hF rfl, hW⟩
      refine StepsI.cons rfl ?_ ?_
      ·rintro L zA va ⟨zB, zS, rfl, rfl, hF, hW⟩ hL hm K hK
       have hb12 : zB 12 = false := by simpa using hL
       have hb4 : zB 4 = true := mt 4 hm (by kernel_rfl)
       have e4 : zS 25 = .bool false := hF 4 _ rfl hb4
       clear hL hm
       simp only [pE]
       simp only [e4]
       rw [if_neg (by exact Bool.false_ne_true)]
       exact hK.out _ _ ⟨ups zB [12], upv _ _ zS [12, 4], rfl, by kernel_rfl, rk hF rfl, hW⟩
      refine StepsI.cons rfl ?_ ?_
      ·rintro L zA va ⟨zB, zS, rfl, rfl, hF, hW⟩ hL hm K hK
       have hb13 : zB 13 = false := by simpa using hL
       have hb4 : zB 4 = true := mt 4 hm (by kernel_rfl)
       have e4 : zS 25 = .bool false := hF 4 _ rfl hb4
       clear hL hm
       simp only [pE]
       simp only [e4]
       rw [if_neg (by exact Bool.false_ne_true)]
       exact hK.out _ _ ⟨ups zB [13], upv _ _ zS [13, 4], rfl, by kernel_rfl, rk hF rfl, hW⟩
      refine StepsI.cons rfl ?_ ?_
      ·rintro L zA va ⟨zB, zS, rfl, rfl, hF, hW⟩ hL hm K hK
       have hb14 : zB 14 = false := by simpa using hL
       have hb4 : zB 4 = true := mt 4 hm (by kernel_rfl)
       have hb13 : zB 13 = true := mt 13 hm (by kernel_rfl)
       have e4 : zS 25 = .bool false := hF 4 _ rfl hb4
       have e13 : zS 34 = undef := hF 13 _ rfl hb13
       clear hL hm
       simp only [pE]
       simp only [e4, e13]
       go_simp
       exact hK.out _ _ ⟨ups zB [14], upv _ _ zS [14, 13, 4], rfl, by kernel_rfl, rk hF rfl, hW⟩
      exact StepsI.nil (by kernel_rfl)
     ·rintro L zA va ⟨zB, zS, rfl, rfl, hF, hW⟩ hr
      have hu := all_up (by kernel_rfl) (N := 15) (by kernel_rfl) hr
      have hb0 : zB 0 = true := by simpa using hu 0 (by decide)
      have hb1 : zB 1 = true := by simpa using hu 1 (by decide)
      have hb2 : zB 2 = true := by simpa using hu 2 (by decide)
      have hb3 : zB 3 = true := by simpa using hu 3 (by decide)
      have hb4 : zB 4 = true := by simpa using hu 4 (by decide)
      have hb5 : zB 5 = true := by simpa using hu 5 (by decide)
      have hb6 : zB 6 = true := by simpa using hu 6 (by decide)
      have hb7 : zB 7 = true := by simpa using hu 7 (by decide)
      have hb8 : zB 8 = true := by simpa using hu 8 (by decide)
      have hb9 : zB 9 = true := by simpa using hu 9 (by decide)
      have hb10 : zB 10 = true := by simpa using hu 10 (by decide)
      have hb11 : zB 11 = true := by simpa using hu 11 (by decide)
      have hb12 : zB 12 = true := by simpa using hu 12 (by decide)
      have hb13 : zB 13 = true := by simpa using hu 13 (by decide)
      have hb14 : zB 14 = true := by simpa using hu 14 (by decide)
      have e0 : zS 21 = .int .i64 (k : Int) := hF 0 _ rfl hb0
      have e1 : zS 22 = .slice (some ⟨go, 0, none⟩) kk c := hF 1 _ rfl hb1
      have e2 : zS 23 = .int .i64 (kk : Int) := hF 2 _ rfl hb2
      have e3 : zS 24 = .bool false := hF 3 _ rfl hb3
      have e4 : zS 25 = .bool false := hF 4 _ rfl hb4
      have e5 : zS 26 = undef := hF 5 _ rfl hb5
      have e6 : zS 27 = undef := hF 6 _ rfl hb6
      have e7 : zS 28 = undef := hF 7 _ rfl hb7
      have e8 : zS 29 = undef := hF 8 _ rfl hb8
      have e9 : zS 30 = undef := hF 9 _ rfl hb9
      have e10 : zS 31 = undef := hF 10 _ rfl hb10
      have e11 : zS 32 = undef := hF 11 _ rfl hb11
      have e12 : zS 33 = undef := hF 12 _ rfl hb12
      have e13 : zS 34 = undef := hF 13 _ rfl hb13
      have e14 : zS 35 = .bool false := hF 14 _ rfl hb14
      clear hu hr hF
      simp only [pE]
      simp only [e0, e1, e2, e3, e4, e5, e6, e7, e8, e9, e10, e11, e12, e13, e14]
      clear e0 e1 e2 e3 e4 e5 e6 e7 e8 e9 e10 e11 e12 e13 e14
      clear hb0 hb1 hb2 hb3 hb4 hb5 hb6 hb7 hb8 hb9 hb10 hb11 hb12 hb13 hb14
      clear zB zS
      have HBV : Hid (Below w1.heap.size w1 va) := mkHid (below_step HBX.out hW)
      clear hW hcL
      have HE : Hid (setY (l.take (i + 1)) = O.take k ++ x :: O.drop k) := mkHid (by rw [setY_next HX.out, HOO.out]; exact ins_at k (by rw [HKK.out]; exact hk) HAL.out HNK.out HNO.out)
      have HOV := mkHid (OW1.out.below HBV.out)
      have HBW := mkHid (below_step BE1.out HBV.out)
      have HCV : Hid (va.cell? ⟨b, off + i * 2, none⟩ = some (.int .i64 x.1) ∧ va.cell? ⟨b, off + i * 2 + 1, none⟩ = some (.int .i64 x.2) ∧ b < va.heap.size) := mkHid ⟨((bcell HBV.out).1 _ _ HC1.out.2.2).trans HC1.out.1, ((bcell HBV.out).1 _ _ HC1.out.2.2).trans HC1.out.2.1, Nat.lt_of_lt_of_le HC1.out.2.2 HBV.out.size⟩
      clear OW1 BE1 HC1 HAL HNK
      have HFN : Hid (Own eY 49 (va.alloc (.cells #[] 49)) va.heap.size (.slice (some ⟨va.heap.size, 0, none⟩) 0 0) []) := mkHid (fresh_y (Nat.le_refl _) (by have := heap_alloc_new va (.cells #[] 49); simpa using this))
      have HAO : Hid (At eY (va.alloc (.cells #[] 49)) (some ⟨go, 0, none⟩) O) := mkHid (HOV.out.at.below (bl_alloc (Below.refl _ _) _))
      have hkc : (k : Int) ≤ (c : Int) := by omega
      go_wp2_with (at_builtin; refine append_y _ rfl _ _ rfl va.heap.size va.heap.size 0 0 [] rfl rfl HFN.out (some ⟨go, 0, none⟩) c k (O.take k) rfl (by simp [HKK.out]; omega) (HAO.out.take k) (by omega) (by simp) ?_)
      intro g1 c1 w2 hown1 hgr1
      have O1 := mkHid hown1
      have HB2 : Hid (Below va.heap.size va w2) := mkHid (((Below.refl _ _).alloc (Nat.le_refl _) _).grown hgr1 (by simp) (fun q e => by cases e; exact Nat.le_refl _))
      have HT1 : Hid ((O.take k).length = k) := mkHid (by simp [HKK.out]; omega)
      have hz2 := HB2.out.size
      have c0 := ((bcell HB2.out).1 _ _ HCV.out.2.2).trans HCV.out.1
      have c1' := ((bcell HB2.out).1 _ _ HCV.out.2.2).trans HCV.out.2.1
      have HA1 : Hid (At eY (w2.alloc (.cells #[.int .i64 x.1, .int .i64 x.2] 49)) (some ⟨w2.heap.size, 0, none⟩) [x]) := mkHid (.inr ⟨_, _, rfl, fun i y hy j v hv => by
       cases i with
       | zero => simp at hy; subst hy; have := two_new w2 (.int .i64 x.1) (.int .i64 x.2) 65 j v hv; rw [WideShapes.add_plain] at this; simpa using this
       | succ i => simp at hy⟩)
      clear hown1 hgr1 HFN HAO
      go_wp2_with (at_builtin; refine append_y _ rfl _ _ rfl va.heap.size g1 c1 k (O.take k) rfl HT1.out (O1.out.below (bl_alloc (Below.refl _ _) _)) (some ⟨w2.heap.size, 0, none⟩) 1 1 [x] rfl rfl HA1.out (by omega) (by simp; omega) ?_)
      intro g2 c2 w3 hown2 hgr2
      have O2 := mkHid hown2
      have HB3 : Hid (Below va.heap.size va w3) := mkHid ((HB2.out.alloc HB2.out.size _).grown hgr2 (by simp; omega) (fun q e => by cases e; exact (O1.out.lt rfl).1))
      have HT2 : Hid ((O.take k ++ [x]).length = k + 1) := mkHid (by rw [List.length_append, HT1.out]; rfl)
      have HAO3 : Hid (At eY w3 (some ⟨go, 0, none⟩) O) := mkHid (HOV.out.at.below HB3.out)
      have HAD : Hid (∀ ax, At eY w3 ax (O.drop k)) := mkHid fun ax => .inl (List.drop_eq_nil_of_le (by rw [HKK.out]; omega))
      have hz3 := HB3.out.size
      clear hown2 hgr2 c0 c1' HA1
      by_cases hck : c = k
      ·go_wp2_with (at_builtin; refine append_y _ rfl _ _ rfl va.heap.size g2 c2 (k + 1) (O.take k ++ [x]) rfl HT2.out O2.out _ _ (kk - k) (O.drop k) rfl (by simp [HKK.out]) (HAD.out _) (by omega) hz3 ?_)
       intro g3 c3 w4 hown3 hgr3
       have HB4 : Hid (Below va.heap.size va w4) := mkHid (HB3.out.grown hgr3 hz3 (fun q e => by cases e; exact (O2.out.lt rfl).1))
       have HK3 : Hid ((O.take k ++ x :: O.drop k).length = k + 1 + (kk - k)) := mkHid (by simp [HKK.out]; omega)
       have O3 : Hid (Own eY 49 w4 w.heap.size (.slice (some ⟨g3, 0, none⟩) (k + 1 + (kk - k)) c3) (O.take k ++ x :: O.drop k)) := mkHid (Own.mono hown3 HBW.out.size)
       have HB5 := mkHid (below_step HBW.out HB4.out)
       clear hown3 hgr3
       go_wp2
       go_roundg (l.length - (i + 1))
       case measure => omega
       case rel => exact ⟨i + 1, g3, c3, by omega, by go_num, Nat.le_refl _, by rw [HE.out, HK3.out], by rw [HE.out, HK3.out]; exact O3.out, HB5.out⟩
      ·go_wp2_with (at_builtin; refine append_y _ rfl _ _ rfl va.heap.size g2 c2 (k + 1) (O.take k ++ [x]) rfl HT2.out O2.out _ _ (kk - k) (O.drop k) rfl (by simp [HKK.out]) (HAD.out _) (by omega) hz3 ?_)
       intro g3 c3 w4 hown3 hgr3
       have HB4 : Hid (Below va.heap.size va w4) := mkHid (HB3.out.grown hgr3 hz3 (fun q e => by cases e; exact (O2.out.lt rfl).1))
       have HK3 : Hid ((O.take k ++ x :: O.drop k).length = k + 1 + (kk - k)) := mkHid (by simp [HKK.out]; omega)
       have O3 : Hid (Own eY 49 w4 w.heap.size (.slice (some ⟨g3, 0, none⟩) (k + 1 + (kk - k)) c3) (O.take k ++ x :: O.drop k)) := mkHid (Own.mono hown3 HBW.out.size)
       have HB5 := mkHid (below_step HBW.out HB4.out)
       clear hown3 hgr3
       go_wp2
       go_roundg (l.length - (i + 1))
       case measure => omega
       case rel => exact ⟨i + 1, g3, c3, by omega, by go_num, Nat.le_refl _, by rw [HE.out, HK3.out], by rw [HE.out, HK3.out]; exact O3.out, HB5.out⟩
  ·have i1 : ¬ (i : Int) < (l.length : Int) := by omega
   have HE : Hid (setY l = O) := mkHid (by rw [← HOO.out, List.take_of_length_le (by omega)])
   clear hbel
   go_wp2
   go_ret
   exact ⟨HBE.out, go, c, by rw [HE.out, HKK.out]; rfl, by rw [HE.out, HKK.out]; exact HOW.out⟩
end Go.Proofs.YtihpajiololfoaaGreat
