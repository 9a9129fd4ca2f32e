/-
  SEGMENTS IN MEMORY: three rows; to be read (SegAt), of one's own (OwnS); a box of three slices (G3).
  CONTRACTS of the law's toSymS.
  CONTRACTS of the law's toSymSS, szSymSS.
  CONTRACTS of the law's toValS.
  CONTRACTS of the law's toBoolS.
  CONTRACTS of the law's eqValS.
  CONTRACTS of the law's eqBoolS.
  CONTRACTS of the law's eqSymS.
-/
import Derived.Test.YtodjmpocpfkpaaaGreatKx03
namespace Go.Proofs.YtodjmpocpfkpaaaGreat
open Go.RowKit

structure SG where
 B : List (List Y)
 V : List VV
 M : List Bool
structure SAd where
 a0 : Option Addr
 c0 : Nat
 a1 : Option Addr
 c1 : Nat
 a2 : Option Addr
 c2 : Nat
structure SegAt (w : World) (A : SAd) (S : SG) : Prop where
 b : BndsAt w A.a0 S.B
 v : At eV w A.a1 S.V
 m : At eB w A.a2 S.M
theorem SegAt.below {w w' : World} {A : SAd} {S : SG} (h : SegAt w A S) (hb : Below w.heap.size w w') : SegAt w' A S := ⟨h.b.below hb, h.v.below hb, h.m.below hb⟩
/-- A Seg of our own: all its blocks lie from lo on and below hi. -/
structure OwnS (w : World) (lo hi : Nat) (A : SAd) (S : SG) : Prop where
 b : OwnT w lo hi (.slice A.a0 S.B.length A.c0) S.B
 v : Own eV 71 w lo (.slice A.a1 S.V.length A.c1) S.V
 vt : ∀ q, Value.ownBlock (.slice A.a1 S.V.length A.c1) = some q → q < hi
 m : Own eB 4 w lo (.slice A.a2 S.M.length A.c2) S.M
 mt : ∀ q, Value.ownBlock (.slice A.a2 S.M.length A.c2) = some q → q < hi
theorem OwnS.at {w : World} {lo hi : Nat} {A : SAd} {S : SG} (h : OwnS w lo hi A S) : SegAt w A S := ⟨h.b.at, h.v.at, h.m.at⟩
theorem OwnS.below {w w' : World} {lo hi : Nat} {A : SAd} {S : SG} (h : OwnS w lo hi A S) (hb : Below w.heap.size w w') : OwnS w' lo hi A S := ⟨h.b.below hb, h.v.below hb, h.vt, h.m.below hb, h.mt⟩
theorem Own.outs {α : Type} {E : El α} {T : TypeId} {w w' : World} {a b : Nat} {v : Value} {l : List α} (h : Own E T w a v l) (ht : ∀ q, v.ownBlock = some q → q < b) {lo hi : Nat} (ho : Outs lo hi w w') (hd : b ≤ lo ∨ hi ≤ a) : Own E T w' a v l :=
 owns_outs h ho fun q hq => by have := (h.lt hq).1; have := ht q hq; omega
theorem OwnS.outs {w w' : World} {a b : Nat} {A : SAd} {S : SG} (h : OwnS w a b A S) {lo hi : Nat} (ho : Outs lo hi w w') (hd : b ≤ lo ∨ hi ≤ a) : OwnS w' a b A S :=
 ⟨h.b.outs ho hd, h.v.outs h.vt ho hd, h.vt, h.m.outs h.mt ho hd, h.mt⟩
/-- Three values in a block that may be written. -/
structure G3 (v : World) (X : Nat) (p q r : Value) : Prop where
 c0 : v.cell? ⟨X, 0, none⟩ = some p
 c1 : v.cell? ⟨X, 1, none⟩ = some q
 c2 : v.cell? ⟨X, 2, none⟩ = some r
 f0 : v.frozen? ⟨X, 0, none⟩ = false
 f1 : v.frozen? ⟨X, 1, none⟩ = false
 f2 : v.frozen? ⟨X, 2, none⟩ = false
section
variable {v v' : World} {X : Nat} {p q r : Value}
theorem G3.lt (h : G3 v X p q r) : X < v.heap.size := World.block_lt_of_cell? v _ h.c0
theorem G3.below (h : G3 v X p q r) (hb : Below v.heap.size v v') : G3 v' X p q r := by
 obtain ⟨hc, hf⟩ := bcell hb
 have hl := h.lt
 exact ⟨(hc _ _ hl).trans h.c0, (hc _ _ hl).trans h.c1, (hc _ _ hl).trans h.c2, (hf _ _ hl).trans h.f0, (hf _ _ hl).trans h.f1, (hf _ _ hl).trans h.f2⟩
theorem G3.drew (h : G3 v X p q r) : G3 v.drew X p q r := ⟨h.c0, h.c1, h.c2, h.f0, h.f1, h.f2⟩
theorem G3.new (w : World) (p q r : Value) (T : TypeId) : G3 (w.alloc (.cells #[p, q, r] T)) w.heap.size p q r := by
 constructor <;> simp [go_sem]
theorem G3.outs (h : G3 v X p q r) {lo hi : Nat} (ho : Outs lo hi v v') (hd : X < lo ∨ hi ≤ X) : G3 v' X p q r := by
 have hb := ho.block X h.lt hd
 have hc : ∀ o, v'.cell? ⟨X, o, none⟩ = v.cell? ⟨X, o, none⟩ := fun o => by simp only [World.cell?, hb]
 have hf : ∀ o, v'.frozen? ⟨X, o, none⟩ = v.frozen? ⟨X, o, none⟩ := fun o => by simp only [World.frozen?, hb]
 exact ⟨(hc _).trans h.c0, (hc _).trans h.c1, (hc _).trans h.c2, (hf _).trans h.f0, (hf _).trans h.f1, (hf _).trans h.f2⟩
theorem G3.set0 (h : G3 v X p q r) (u : Value) : G3 (v.setCell ⟨X, 0, none⟩ u) X u q r := by
 obtain ⟨c0, c1, c2, f0, f1, f2⟩ := h
 constructor <;> simp [go_sem, *]
theorem G3.set1 (h : G3 v X p q r) (u : Value) : G3 (v.setCell ⟨X, 1, none⟩ u) X p u r := by
 obtain ⟨c0, c1, c2, f0, f1, f2⟩ := h
 constructor <;> simp [go_sem, *]
theorem G3.set2 (h : G3 v X p q r) (u : Value) : G3 (v.setCell ⟨X, 2, none⟩ u) X p q u := by
 obtain ⟨c0, c1, c2, f0, f1, f2⟩ := h
 constructor <;> simp [go_sem, *]
theorem G3.far (h : G3 v X p q r) {Z : Nat} (hn : X ≠ Z) (i : Nat) (u : Value) : G3 (v.setCell ⟨Z, i, none⟩ u) X p q r := by
 obtain ⟨c0, c1, c2, f0, f1, f2⟩ := h
 constructor <;> simp [go_sem, *]
end
theorem outs_set (w : World) (Z i : Nat) (u : Value) : Outs Z (Z + 1) w (w.setCell ⟨Z, i, none⟩ u) := by
 have g : Below Z w (w.setCell ⟨Z, i, none⟩ u) := (Below.refl Z w).setCell (p := ⟨Z, i, none⟩) (Nat.le_refl _) _
 refine ⟨g.os, g.tape, g.output, g.size, fun k hk hd => ?_⟩
 exact Below.heap_setCell w ⟨Z, i, none⟩ u k (by show k ≠ Z; omega)
theorem OwnT.mono {w : World} {lo hi lo' hi' : Nat} {v : Value} {ls : List (List Y)} (h : OwnT w lo hi v ls) (h1 : lo' ≤ lo) (h2 : hi ≤ hi') : OwnT w lo' hi' v ls := by
 obtain ⟨vs, a, b, c, d⟩ := h
 exact ⟨vs, World.ownsRow.mono a h1, b.mono h1, fun q hq => Nat.lt_of_lt_of_le (c q hq) h2, fun i u q hu hq => Nat.lt_of_lt_of_le (d i u q hu hq) h2⟩
theorem OwnS.mono {w : World} {lo hi lo' hi' : Nat} {A : SAd} {S : SG} (h : OwnS w lo hi A S) (h1 : lo' ≤ lo) (h2 : hi ≤ hi') : OwnS w lo' hi' A S :=
 ⟨h.b.mono h1 h2, h.v.mono h1, fun q hq => Nat.lt_of_lt_of_le (h.vt q hq) h2, h.m.mono h1, fun q hq => Nat.lt_of_lt_of_le (h.mt q hq) h2⟩
end Go.Proofs.YtodjmpocpfkpaaaGreat
namespace Go.Proofs.YtodjmpocpfkpaaaGreat
open Go.RowKit

theorem Tryz.info65 : (Tryz.prog.info? 65).map (fun i => (i.zero, i.size, i.bytes)) = some (some (.agg #[.int .i64 0, .int .i64 0]), 2, 16) := by kernel_rfl
set_option maxRecDepth 100000 in
set_option maxHeartbeats 1600000 in
theorem toSymS_any (l : List Y) (a : Option Addr) (c : Nat) (w : World) (hn : l.length ≤ 1048576) (hl : At eY w a l) :
  Calls Tryz.prog 42 #[.slice a l.length c] w fun e w' => ∃ g, e = .returned (.slice (some ⟨g, 0, none⟩) l.length l.length) ∧ Own eY 65 w' w.heap.size (.slice (some ⟨g, 0, none⟩) l.length l.length) l ∧ Below w.heap.size w w' := by
 obtain ⟨i0, hi, hz⟩ := Option.map_eq_some_iff.1 Tryz.info65
 simp only [Prod.mk.injEq] at hz
 obtain ⟨hz0, hz1, hz2⟩ := hz
 obtain ⟨w1, hmk, hown0, hg0⟩ := run_make_full (P := Tryz.prog) w w.heap.size 63 65 i0 _ 2 Tryz.underlying63 hi hz0 hz1 .i64 .i64 l.length (by rw [hz2]; omega) (by unfold maxLen; omega) (Nat.le_refl _)
 obtain ⟨g, hgg⟩ : ∃ g, w.heap.size = g := ⟨_, rfl⟩
 have HGG := mkHid hgg
 rw [hgg] at hmk hown0
 have HL := mkHid hl
 have HO := mkHid hown0
 have HG := mkHid (Below.grown (Below.refl w.heap.size w) hg0 (Nat.le_refl _) (fun k hk => by cases hk))
 clear hl hown0 hg0 hi hz0 hz1 hz2 hgg
 go_enter Tryz.func42, Tryz.ntmps42
 go_wp2
 go_loopw [4] (fun i w' => ∃ (k : Nat) (xs : List Value), k ≤ l.length ∧ i = .int .i64 k ∧ w'.ownsRow g 65 2 (.slice (some ⟨g, 0, none⟩) l.length l.length) l.length xs ∧ xs.take (k * 2) = eY.flat (l.take k) ∧ Below w.heap.size w w') (fun i _ => l.length - (intOf i).toNat)
 case atStart => exact ⟨0, _, Nat.zero_le _, rfl, HO.out, by simp [El.flat], HG.out⟩
 case round =>
  obtain ⟨k, xs, hk, rfl, hown, htake, hbel⟩ := hrel
  have HW := mkHid hown
  have HT := mkHid htake
  have HB := mkHid hbel
  clear hown htake hbel HO HG hmk
  by_cases hlt : k < l.length
  ·obtain ⟨x, hx⟩ : ∃ x, l[k]? = some x := ⟨_, List.getElem?_eq_getElem hlt⟩
   obtain ⟨b, o, rfl, _, hl⟩ := (HL.out.below HB.out).cons (by omega)
   obtain ⟨c0, c1⟩ := get_y hl hx
   have HX := mkHid hx
   clear hl hx
   have i0 : (0 : Int) ≤ (k : Int) := by omega
   have i1 : (k : Int) < (l.length : Int) := by omega
   go_wp2_with fail
   refine (toSym_any x.1 x.2 _).mono ?_
   rintro e w2 ⟨rfl, hb1⟩
   have HW1 := mkHid (owns_below HW.out hb1)
   have HB1 := mkHid (below_step HB.out hb1)
   have hxl := HW1.out.1
   clear hb1 HB HW c0 c1
   obtain ⟨u0, y0⟩ : ∃ v, w2.cell? ⟨g, k * 2, none⟩ = some v := ⟨_, (HW1.out.cellAt (k * 2) (by omega)).trans (List.getElem?_eq_getElem (by omega))⟩
   have z0 := HW1.out.frozenAt (k * 2)
   obtain ⟨u1, y1⟩ : ∃ v, w2.cell? ⟨g, k * 2 + 1, none⟩ = some v := ⟨_, (HW1.out.cellAt (k * 2 + 1) (by omega)).trans (List.getElem?_eq_getElem (by omega))⟩
   have z1 := HW1.out.frozenAt (k * 2 + 1)
   clear hxl
   have HA0 := mkHid (HW1.out.stored (k * 2) (.int .i64 x.1))
   have HA1 := mkHid (HA0.out.1.stored (k * 2 + 1) (.int .i64 x.2))
   go_wp2
   go_roundw
   case rel =>
    refine ⟨k + 1, _, by omega, by go_num, HA1.out.1, step_y HX.out HW1.out.1 HT.out, ?_⟩
    exact (HB1.out.setCell (p := ⟨g, k * 2, none⟩) (Nat.le_of_eq HGG.out) _).setCell (p := ⟨g, k * 2 + 1, none⟩) (Nat.le_of_eq HGG.out) _
   case measure => simp [intOf]; omega
  ·have e : k = l.length := by omega
   subst e
   have hown := HW.out
   rw [flat_upto (E := eY) HW.out.1 HT.out] at hown
   have HW := mkHid hown
   clear hown HT
   go_wp2
   go_ret
   exact ⟨g, rfl, by rw [HGG.out]; exact HW.out, HB.out⟩
end Go.Proofs.YtodjmpocpfkpaaaGreat
namespace Go.Proofs.YtodjmpocpfkpaaaGreat
open Go.RowKit

theorem Tryz.info63 : (Tryz.prog.info? 63).map (fun i => (i.zero, i.size, i.bytes)) = some (some (.slice none 0 0), 1, 24) := by kernel_rfl
set_option maxRecDepth 100000 in
set_option maxHeartbeats 1600000 in
theorem toSymSS_any (ls : List (List Y)) (a : Option Addr) (c : Nat) (w : World) (hn : ls.length ≤ 1048576) (ht : tot ls ≤ 1048576) (hl : BndsAt w a ls) :
  Calls Tryz.prog 22 #[.slice a ls.length c] w fun e w' => ∃ g, e = .returned (.slice (some ⟨g, 0, none⟩) ls.length ls.length) ∧ OwnYY w' w.heap.size (.slice (some ⟨g, 0, none⟩) ls.length ls.length) ls ∧ Below w.heap.size w w' := by
 obtain ⟨i0, hi, hz⟩ := Option.map_eq_some_iff.1 Tryz.info63
 simp only [Prod.mk.injEq] at hz
 obtain ⟨hz0, hz1, hz2⟩ := hz
 obtain ⟨w1, hmk, hown0, hg0⟩ := run_make_full (P := Tryz.prog) w w.heap.size 28 63 i0 _ 1 Tryz.underlying28 hi hz0 hz1 .i64 .i64 ls.length (by rw [hz2]; omega) (by unfold maxLen; omega) (Nat.le_refl _)
 obtain ⟨g, hgg⟩ : ∃ g, w.heap.size = g := ⟨_, rfl⟩
 have HGG := mkHid hgg
 rw [hgg] at hmk hown0
 have HL := mkHid hl
 have HO := mkHid hown0
 have HT := mkHid ht
 have HG := mkHid (Below.grown (Below.refl w.heap.size w) hg0 (Nat.le_refl _) (fun k hk => by cases hk))
 clear hl hown0 hg0 hi hz0 hz1 hz2 hgg ht
 go_enter Tryz.func22, Tryz.ntmps22
 go_wp2
 go_loopw [4] (fun i w' => ∃ (k : Nat) (xs : List Value), k ≤ ls.length ∧ i = .int .i64 k ∧ w'.ownsRow g 63 1 (.slice (some ⟨g, 0, none⟩) ls.length ls.length) ls.length xs ∧ Inn w' g (xs.take k) (ls.take k) ∧ Below w.heap.size w w') (fun i _ => ls.length - (intOf i).toNat)
 case atStart => exact ⟨0, _, Nat.zero_le _, rfl, HO.out, by simpa using Inn.nil _ _, HG.out⟩
 case round =>
  obtain ⟨k, xs, hk, rfl, hown, hinn, hbel⟩ := hrel
  have HW := mkHid hown
  have HI := mkHid hinn
  have HB := mkHid hbel
  clear hown hinn hbel HO HG hmk
  by_cases hlt : k < ls.length
  ·obtain ⟨l, hx⟩ : ∃ x, ls[k]? = some x := ⟨_, List.getElem?_eq_getElem hlt⟩
   obtain ⟨b, o, rfl, _, hl⟩ := (HL.out.below HB.out).cons (by omega)
   obtain ⟨ao, cp, c0, hat⟩ := hl k l hx
   have HX := mkHid hx
   have HAT := mkHid hat
   have hll := tot_get hx
   clear hl hx hat
   have i0 : (0 : Int) ≤ (k : Int) := by omega
   have i1 : (k : Int) < (ls.length : Int) := by omega
   go_wp2_with fail
   refine (toSymS_any l ao cp _ (by have := HT.out; omega) HAT.out).mono ?_
   rintro e w2 ⟨gn, rfl, hon, hb1⟩
   have HW1 := mkHid (owns_below HW.out hb1)
   have HI1 := mkHid (HI.out.below hb1)
   have HB1 := mkHid (below_step HB.out hb1)
   have HN := mkHid hon
   have HLT : Hid (∀ (i : Nat) (v : Value) (q : Nat), (xs.take k)[i]? = some v → v.ownBlock = some q → q < wr.heap.size) := mkHid fun i v q h1 h2 => (HI.out.lt h1 h2).2
   have hxl := HW1.out.1
   have hgw : g < wr.heap.size := (World.ownsRow.lt HW.out g rfl).2
   have HGW := mkHid hgw
   have HGS : Hid (wr.heap.size ≤ gn) := mkHid ((HN.out.lt (q := gn) rfl).1)
   clear hb1 hon HB HW HI c0 hgw
   obtain ⟨u0, y0⟩ : ∃ v, w2.cell? ⟨g, k, none⟩ = some v := ⟨_, (HW1.out.cellAt k (by omega)).trans (List.getElem?_eq_getElem (by omega))⟩
   have z0 := HW1.out.frozenAt k
   have HA := mkHid (HW1.out.stored k (.slice (some ⟨gn, 0, none⟩) l.length l.length))
   have HXL := mkHid hxl
   clear hxl
   go_wp2
   go_roundw
   case rel =>
    have hxl := HXL.out
    refine ⟨k + 1, _, by omega, by go_num, HA.out.1, ?_, HB1.out.setCell (p := ⟨g, k, none⟩) (Nat.le_of_eq HGG.out) _⟩
    have e1 : (xs.set k (.slice (some ⟨gn, 0, none⟩) l.length l.length)).take (k + 1) = xs.take k ++ [.slice (some ⟨gn, 0, none⟩) l.length l.length] := by
     rw [List.take_succ_eq_append_getElem (by simp; omega)]
     simp [List.take_set_of_le]
    rw [e1, take_snoc HX.out]
    have hg2 := HA.out.2
    refine Inn.snoc (n0 := wr.heap.size) ?_ HLT.out (Nat.le_of_lt HGW.out) ?_
    ·refine HI1.out.keptBy hg2 fun q cur e hc => ?_
     have e' : g = q := Option.some.inj e
     subst e'
     rcases HW1.out.2 with ⟨e2, _⟩ | ⟨g2, _, cur2, e2, _, hg3, _⟩
     ·simp at e2
     ·simp at e2
      obtain ⟨rfl, rfl⟩ := e2
      rw [hc] at hg3
      simp at hg3
    ·refine HN.out.keptBy hg2 fun q hq e => ?_
     have e' : g = q := Option.some.inj e
     have e'' : gn = q := Option.some.inj hq
     have h1 := HGS.out
     have h2 := HGW.out
     omega
   case measure => simp [intOf]; omega
  ·have e : k = ls.length := by omega
   subst e
   have hinn := HI.out
   have hxl := HW.out.1
   rw [List.take_of_length_le (by omega), List.take_length] at hinn
   have HI := mkHid hinn
   clear hinn hxl
   go_wp2
   go_ret
   exact ⟨g, rfl, ⟨xs, by rw [HGG.out]; exact HW.out, by rw [HGG.out]; exact HI.out⟩, HB.out⟩
/-- What is left of a size. -/
def szN (left : Int) (n : Nat) : Int := if left - n < 0 then -1 else left - n
theorem szSymS_any (a : Option Addr) (n c : Nat) (left : Int) (w : World) (hn : n ≤ maxLen) (h0 : 0 ≤ left) (h1 : left ≤ 1048576) :
  Calls Tryz.prog 38 #[.slice a n c, .int .i64 left] w fun e w' => e = .returned (.int .i64 (szN left n)) ∧ w = w' := by
 unfold maxLen at hn
 unfold szN
 by_cases h : left - n < 0
 ·rw [if_pos h]
  go_enter Tryz.func38, Tryz.ntmps38
  go_wp2
  go_ret
  exact ⟨rfl, rfl⟩
 ·rw [if_neg h]
  go_enter Tryz.func38, Tryz.ntmps38
  go_wp2
  go_ret
  exact ⟨rfl, rfl⟩
theorem szValS_any (a : Option Addr) (n c : Nat) (left : Int) (w : World) (hn : n ≤ maxLen) (h0 : 0 ≤ left) (h1 : left ≤ 1048576) :
  Calls Tryz.prog 18 #[.slice a n c, .int .i64 left] w fun e w' => e = .returned (.int .i64 (szN left n)) ∧ w = w' := by
 unfold maxLen at hn
 unfold szN
 by_cases h : left - n < 0
 ·rw [if_pos h]
  go_enter Tryz.func18, Tryz.ntmps18
  go_wp2
  go_ret
  exact ⟨rfl, rfl⟩
 ·rw [if_neg h]
  go_enter Tryz.func18, Tryz.ntmps18
  go_wp2
  go_ret
  exact ⟨rfl, rfl⟩
theorem szBoolS_any (a : Option Addr) (n c : Nat) (left : Int) (w : World) (hn : n ≤ maxLen) (h0 : 0 ≤ left) (h1 : left ≤ 1048576) :
  Calls Tryz.prog 19 #[.slice a n c, .int .i64 left] w fun e w' => e = .returned (.int .i64 (szN left n)) ∧ w = w' := by
 unfold maxLen at hn
 unfold szN
 by_cases h : left - n < 0
 ·rw [if_pos h]
  go_enter Tryz.func19, Tryz.ntmps19
  go_wp2
  go_ret
  exact ⟨rfl, rfl⟩
 ·rw [if_neg h]
  go_enter Tryz.func19, Tryz.ntmps19
  go_wp2
  go_ret
  exact ⟨rfl, rfl⟩
end Go.Proofs.YtodjmpocpfkpaaaGreat
namespace Go.Proofs.YtodjmpocpfkpaaaGreat
open Go.RowKit

theorem Tryz.info71 : (Tryz.prog.info? 71).map (fun i => (i.zero, i.size, i.bytes)) = some (some (.agg #[.int .i64 0, .int .i64 0, .bool false]), 3, 24) := by kernel_rfl
set_option maxRecDepth 100000 in
set_option maxHeartbeats 1600000 in
theorem toValS_any (l : List VV) (a : Option Addr) (c : Nat) (w : World) (hn : l.length ≤ 1048576) (hl : At eV w a l) :
  Calls Tryz.prog 23 #[.slice a l.length c] w fun e w' => ∃ g, e = .returned (.slice (some ⟨g, 0, none⟩) l.length l.length) ∧ Own eV 71 w' w.heap.size (.slice (some ⟨g, 0, none⟩) l.length l.length) l ∧ Below w.heap.size w w' := by
 obtain ⟨i0, hi, hz⟩ := Option.map_eq_some_iff.1 Tryz.info71
 simp only [Prod.mk.injEq] at hz
 obtain ⟨hz0, hz1, hz2⟩ := hz
 obtain ⟨w1, hmk, hown0, hg0⟩ := run_make_full (P := Tryz.prog) w w.heap.size 29 71 i0 _ 3 Tryz.underlying29 hi hz0 hz1 .i64 .i64 l.length (by rw [hz2]; omega) (by unfold maxLen; omega) (Nat.le_refl _)
 obtain ⟨g, hgg⟩ : ∃ g, w.heap.size = g := ⟨_, rfl⟩
 have HGG := mkHid hgg
 rw [hgg] at hmk hown0
 have HL := mkHid hl
 have HO := mkHid hown0
 have HG := mkHid (Below.grown (Below.refl w.heap.size w) hg0 (Nat.le_refl _) (fun k hk => by cases hk))
 clear hl hown0 hg0 hi hz0 hz1 hz2 hgg
 go_enter Tryz.func23, Tryz.ntmps23
 go_wp2
 go_loopw [4] (fun i w' => ∃ (k : Nat) (xs : List Value), k ≤ l.length ∧ i = .int .i64 k ∧ w'.ownsRow g 71 3 (.slice (some ⟨g, 0, none⟩) l.length l.length) l.length xs ∧ xs.take (k * 3) = eV.flat (l.take k) ∧ Below w.heap.size w w') (fun i _ => l.length - (intOf i).toNat)
 case atStart => exact ⟨0, _, Nat.zero_le _, rfl, HO.out, by simp [El.flat], HG.out⟩
 case round =>
  obtain ⟨k, xs, hk, rfl, hown, htake, hbel⟩ := hrel
  have HW := mkHid hown
  have HT := mkHid htake
  have HB := mkHid hbel
  clear hown htake hbel HO HG hmk
  by_cases hlt : k < l.length
  ·obtain ⟨x, hx⟩ : ∃ x, l[k]? = some x := ⟨_, List.getElem?_eq_getElem hlt⟩
   obtain ⟨b, o, rfl, _, hl⟩ := (HL.out.below HB.out).cons (by omega)
   obtain ⟨c0, c1, c2⟩ := get_v hl hx
   have HX := mkHid hx
   clear hl hx
   have i0 : (0 : Int) ≤ (k : Int) := by omega
   have i1 : (k : Int) < (l.length : Int) := by omega
   go_wp2_with fail
   refine (toVal_any x.1 x.2.1 x.2.2 _).mono ?_
   rintro e w2 ⟨rfl, hb1⟩
   have HW1 := mkHid (owns_below HW.out hb1)
   have HB1 := mkHid (below_step HB.out hb1)
   have hxl := HW1.out.1
   clear hb1 HB HW c0 c1 c2
   obtain ⟨u0, y0⟩ : ∃ v, w2.cell? ⟨g, k * 3, none⟩ = some v := ⟨_, (HW1.out.cellAt (k * 3) (by omega)).trans (List.getElem?_eq_getElem (by omega))⟩
   have z0 := HW1.out.frozenAt (k * 3)
   obtain ⟨u1, y1⟩ : ∃ v, w2.cell? ⟨g, k * 3 + 1, none⟩ = some v := ⟨_, (HW1.out.cellAt (k * 3 + 1) (by omega)).trans (List.getElem?_eq_getElem (by omega))⟩
   have z1 := HW1.out.frozenAt (k * 3 + 1)
   obtain ⟨u2, y2⟩ : ∃ v, w2.cell? ⟨g, k * 3 + 2, none⟩ = some v := ⟨_, (HW1.out.cellAt (k * 3 + 2) (by omega)).trans (List.getElem?_eq_getElem (by omega))⟩
   have z2 := HW1.out.frozenAt (k * 3 + 2)
   clear hxl
   have HA0 := mkHid (HW1.out.stored (k * 3) (.int .i64 x.1))
   have HA1 := mkHid (HA0.out.1.stored (k * 3 + 1) (.int .i64 x.2.1))
   have HA2 := mkHid (HA1.out.1.stored (k * 3 + 2) (.bool x.2.2))
   go_wp2
   go_roundw
   case rel =>
    refine ⟨k + 1, _, by omega, by go_num, HA2.out.1, step_v HX.out HW1.out.1 HT.out, ?_⟩
    exact ((HB1.out.setCell (p := ⟨g, k * 3, none⟩) (Nat.le_of_eq HGG.out) _).setCell (p := ⟨g, k * 3 + 1, none⟩) (Nat.le_of_eq HGG.out) _).setCell (p := ⟨g, k * 3 + 2, none⟩) (Nat.le_of_eq HGG.out) _
   case measure => simp [intOf]; omega
  ·have e : k = l.length := by omega
   subst e
   have hown := HW.out
   rw [flat_upto (E := eV) HW.out.1 HT.out] at hown
   have HW := mkHid hown
   clear hown HT
   go_wp2
   go_ret
   exact ⟨g, rfl, by rw [HGG.out]; exact HW.out, HB.out⟩
end Go.Proofs.YtodjmpocpfkpaaaGreat
namespace Go.Proofs.YtodjmpocpfkpaaaGreat
open Go.RowKit

theorem Tryz.info4 : (Tryz.prog.info? 4).map (fun i => (i.zero, i.size, i.bytes)) = some (some (.bool false), 1, 1) := by kernel_rfl
set_option maxRecDepth 100000 in
set_option maxHeartbeats 1600000 in
theorem toBoolS_any (l : List Bool) (a : Option Addr) (c : Nat) (w : World) (hn : l.length ≤ 1048576) (hl : At eB w a l) :
  Calls Tryz.prog 24 #[.slice a l.length c] w fun e w' => ∃ g, e = .returned (.slice (some ⟨g, 0, none⟩) l.length l.length) ∧ Own eB 4 w' w.heap.size (.slice (some ⟨g, 0, none⟩) l.length l.length) l ∧ Below w.heap.size w w' := by
 obtain ⟨i0, hi, hz⟩ := Option.map_eq_some_iff.1 Tryz.info4
 simp only [Prod.mk.injEq] at hz
 obtain ⟨hz0, hz1, hz2⟩ := hz
 obtain ⟨w1, hmk, hown0, hg0⟩ := run_make_full (P := Tryz.prog) w w.heap.size 24 4 i0 _ 1 Tryz.underlying24 hi hz0 hz1 .i64 .i64 l.length (by rw [hz2]; omega) (by unfold maxLen; omega) (Nat.le_refl _)
 obtain ⟨g, hgg⟩ : ∃ g, w.heap.size = g := ⟨_, rfl⟩
 have HGG := mkHid hgg
 rw [hgg] at hmk hown0
 have HL := mkHid hl
 have HO := mkHid hown0
 have HG := mkHid (Below.grown (Below.refl w.heap.size w) hg0 (Nat.le_refl _) (fun k hk => by cases hk))
 clear hl hown0 hg0 hi hz0 hz1 hz2 hgg
 go_enter Tryz.func24, Tryz.ntmps24
 go_wp2
 go_loopw [4] (fun i w' => ∃ (k : Nat) (xs : List Value), k ≤ l.length ∧ i = .int .i64 k ∧ w'.ownsRow g 4 1 (.slice (some ⟨g, 0, none⟩) l.length l.length) l.length xs ∧ xs.take (k * 1) = eB.flat (l.take k) ∧ Below w.heap.size w w') (fun i _ => l.length - (intOf i).toNat)
 case atStart => exact ⟨0, _, Nat.zero_le _, rfl, HO.out, by simp [El.flat], HG.out⟩
 case round =>
  obtain ⟨k, xs, hk, rfl, hown, htake, hbel⟩ := hrel
  have HW := mkHid hown
  have HT := mkHid htake
  have HB := mkHid hbel
  clear hown htake hbel HO HG hmk
  by_cases hlt : k < l.length
  ·obtain ⟨x, hx⟩ : ∃ x, l[k]? = some x := ⟨_, List.getElem?_eq_getElem hlt⟩
   obtain ⟨b, o, rfl, _, hl⟩ := (HL.out.below HB.out).cons (by omega)
   have c0 := get_b hl hx
   have HX := mkHid hx
   clear hl hx
   have i0 : (0 : Int) ≤ (k : Int) := by omega
   have i1 : (k : Int) < (l.length : Int) := by omega
   have HW1 := HW
   have HB1 := HB
   have hxl := HW1.out.1
   obtain ⟨u0, y0⟩ : ∃ v, wr.cell? ⟨g, k, none⟩ = some v := ⟨_, (HW1.out.cellAt (k) (by omega)).trans (List.getElem?_eq_getElem (by omega))⟩
   have z0 := HW1.out.frozenAt (k)
   clear hxl
   have HA0 := mkHid (HW1.out.stored (k) (.bool x))
   go_wp2
   go_roundw
   case rel =>
    refine ⟨k + 1, _, by omega, by go_num, HA0.out.1, step_b HX.out HW1.out.1 HT.out, ?_⟩
    exact HB1.out.setCell (p := ⟨g, k, none⟩) (Nat.le_of_eq HGG.out) _
   case measure => simp [intOf]; omega
  ·have e : k = l.length := by omega
   subst e
   have hown := HW.out
   rw [flat_upto (E := eB) HW.out.1 HT.out] at hown
   have HW := mkHid hown
   clear hown HT
   go_wp2
   go_ret
   exact ⟨g, rfl, by rw [HGG.out]; exact HW.out, HB.out⟩
end Go.Proofs.YtodjmpocpfkpaaaGreat
namespace Go.Proofs.YtodjmpocpfkpaaaGreat
open Go.RowKit

set_option maxRecDepth 100000 in
set_option maxHeartbeats 400000 in
theorem eqValS_nil (a a' : Option Addr) (c c' : Nat) (w : World) : Calls Tryz.prog 27 #[.slice a 0 c, .slice a' 0 c'] w fun e w' => e = .returned (.bool true) ∧ Below w.heap.size w w' := by
 go_enter Tryz.func27, Tryz.ntmps27
 go_wp2
 go_loopw [5] (fun i w' => i = .int .i64 0 ∧ w' = w) (fun i _ => 0)
 case atStart => exact ⟨rfl, rfl⟩
 case round =>
  obtain ⟨rfl, rfl⟩ := hrel
  go_wp2
  go_ret
  exact ⟨rfl, Below.refl _ _⟩
set_option maxRecDepth 100000 in
set_option maxHeartbeats 800000 in
theorem eqValS_of (l : List VV) (a a' : Option Addr) (c c' : Nat) (w : World) (h0 : 0 < l.length) (hn : l.length ≤ maxLen) (hl : At eV w a l) (hl' : At eV w a' l) :
  Calls Tryz.prog 27 #[.slice a l.length c, .slice a' l.length c'] w fun e w' => e = .returned (.bool true) ∧ Below w.heap.size w w' := by
 unfold maxLen at hn
 obtain ⟨b, off, rfl, hlb, _⟩ := hl.cons h0
 obtain ⟨b', off', rfl, hlb', _⟩ := hl'.cons h0
 have HL := mkHid hl
 have HL' := mkHid hl'
 clear hl hl'
 go_enter Tryz.func27, Tryz.ntmps27
 go_wp2
 go_loopw [5] (fun i w' => ∃ (k : Nat), k ≤ l.length ∧ i = .int .i64 k ∧ Below w.heap.size w w') (fun i _ => l.length - (intOf i).toNat)
 case atStart => exact ⟨0, Nat.zero_le _, rfl, Below.refl _ _⟩
 case round =>
  obtain ⟨k, hk, rfl, hbel⟩ := hrel
  have HB := mkHid hbel
  by_cases hlt : k < l.length
  ·obtain ⟨x, hx⟩ : ∃ x, l[k]? = some x := ⟨_, List.getElem?_eq_getElem hlt⟩
   obtain ⟨_, _, e, hlc, hq⟩ := (HL.out.below hbel).cons h0
   cases e
   obtain ⟨_, _, e, hlc', hq'⟩ := (HL'.out.below hbel).cons h0
   cases e
   obtain ⟨hc0, hc1, hc2⟩ := get_v hq hx
   obtain ⟨hd0, hd1, hd2⟩ := get_v hq' hx
   clear hx hbel hq hq'
   have i0 : (0 : Int) ≤ (k : Int) := by omega
   have i1 : (k : Int) < (l.length : Int) := by omega
   go_wp2
   go_region_held3 (fun w' => w'.cell? ⟨b, off + k * 3, none⟩ = some (.int .i64 x.1) ∧ w'.cell? ⟨b, off + k * 3 + 1, none⟩ = some (.int .i64 x.2.1) ∧ w'.cell? ⟨b, off + k * 3 + 2, none⟩ = some (.bool x.2.2) ∧ w'.cell? ⟨b', off' + k * 3, none⟩ = some (.int .i64 x.1) ∧ w'.cell? ⟨b', off' + k * 3 + 1, none⟩ = some (.int .i64 x.2.1) ∧ w'.cell? ⟨b', off' + k * 3 + 2, none⟩ = some (.bool x.2.2)) (first | exact ⟨hc0, hc1, hc2, hd0, hd1, hd2⟩ | exact ⟨(hc _ _ hlc).trans hc0, (hc _ _ hlc).trans hc1, (hc _ _ hlc).trans hc2, (hc _ _ hlc').trans hd0, (hc _ _ hlc').trans hd1, (hc _ _ hlc').trans hd2⟩)
    (first | (go_at_call 52; refine (eqVal_same x.1 x.2.1 x.2.2 _).mono ?_; rintro e w1 ⟨rfl, hb1⟩; obtain ⟨hc, hf⟩ := bcell hb1))
   have HB1 : Hid (Below w.heap.size w w1) := HB.out.drew.trans (hb1.mono HB.out.drew.size)
   clear hb1 hc hf
   go_wp2
   go_roundw
   case rel => exact ⟨k + 1, by omega, by go_num, HB1.out⟩
   case measure => simp [intOf]; omega
  ·go_wp2
   go_ret
   exact ⟨rfl, HB.out⟩
theorem eqValS_same (l : List VV) (a a' : Option Addr) (c c' : Nat) (w : World) (hn : l.length ≤ maxLen) (hl : At eV w a l) (hl' : At eV w a' l) :
  Calls Tryz.prog 27 #[.slice a l.length c, .slice a' l.length c'] w fun e w' => e = .returned (.bool true) ∧ Below w.heap.size w w' := by
 rcases Nat.eq_zero_or_pos l.length with h | h
 ·rw [h]; exact eqValS_nil a a' c c' w
 ·exact eqValS_of l a a' c c' w h hn hl hl'
end Go.Proofs.YtodjmpocpfkpaaaGreat
namespace Go.Proofs.YtodjmpocpfkpaaaGreat
open Go.RowKit

set_option maxRecDepth 100000 in
set_option maxHeartbeats 400000 in
theorem eqBoolS_nil (a a' : Option Addr) (c c' : Nat) (w : World) : Calls Tryz.prog 28 #[.slice a 0 c, .slice a' 0 c'] w fun e w' => e = .returned (.bool true) ∧ Below w.heap.size w w' := by
 go_enter Tryz.func28, Tryz.ntmps28
 go_wp2
 go_loopw [5] (fun i w' => i = .int .i64 0 ∧ w' = w) (fun i _ => 0)
 case atStart => exact ⟨rfl, rfl⟩
 case round =>
  obtain ⟨rfl, rfl⟩ := hrel
  go_wp2
  go_ret
  exact ⟨rfl, Below.refl _ _⟩
set_option maxRecDepth 100000 in
set_option maxHeartbeats 800000 in
theorem eqBoolS_of (l : List Bool) (a a' : Option Addr) (c c' : Nat) (w : World) (h0 : 0 < l.length) (hn : l.length ≤ maxLen) (hl : At eB w a l) (hl' : At eB w a' l) :
  Calls Tryz.prog 28 #[.slice a l.length c, .slice a' l.length c'] w fun e w' => e = .returned (.bool true) ∧ Below w.heap.size w w' := by
 unfold maxLen at hn
 obtain ⟨b, off, rfl, hlb, _⟩ := hl.cons h0
 obtain ⟨b', off', rfl, hlb', _⟩ := hl'.cons h0
 have HL := mkHid hl
 have HL' := mkHid hl'
 clear hl hl'
 go_enter Tryz.func28, Tryz.ntmps28
 go_wp2
 go_loopw [5] (fun i w' => ∃ (k : Nat), k ≤ l.length ∧ i = .int .i64 k ∧ Below w.heap.size w w') (fun i _ => l.length - (intOf i).toNat)
 case atStart => exact ⟨0, Nat.zero_le _, rfl, Below.refl _ _⟩
 case round =>
  obtain ⟨k, hk, rfl, hbel⟩ := hrel
  have HB := mkHid hbel
  by_cases hlt : k < l.length
  ·obtain ⟨x, hx⟩ : ∃ x, l[k]? = some x := ⟨_, List.getElem?_eq_getElem hlt⟩
   obtain ⟨_, _, e, hlc, hq⟩ := (HL.out.below hbel).cons h0
   cases e
   obtain ⟨_, _, e, hlc', hq'⟩ := (HL'.out.below hbel).cons h0
   cases e
   have hc0 := get_b hq hx
   have hd0 := get_b hq' hx
   clear hx hbel hq hq'
   have i0 : (0 : Int) ≤ (k : Int) := by omega
   have i1 : (k : Int) < (l.length : Int) := by omega
   have hne : (x != x) = false := by simp
   have HB1 : Hid (Below w.heap.size w wr.drew) := mkHid HB.out.drew
   go_wp2
   go_quiet (fail)
   go_wp2
   go_roundw
   case rel => exact ⟨k + 1, by omega, by go_num, Below.trans HB.out ⟨rfl, rfl, rfl, Nat.le_refl _, fun _ _ => rfl⟩⟩
   case measure => simp [intOf]; omega
  ·go_wp2
   go_ret
   exact ⟨rfl, HB.out⟩
theorem eqBoolS_same (l : List Bool) (a a' : Option Addr) (c c' : Nat) (w : World) (hn : l.length ≤ maxLen) (hl : At eB w a l) (hl' : At eB w a' l) :
  Calls Tryz.prog 28 #[.slice a l.length c, .slice a' l.length c'] w fun e w' => e = .returned (.bool true) ∧ Below w.heap.size w w' := by
 rcases Nat.eq_zero_or_pos l.length with h | h
 ·rw [h]; exact eqBoolS_nil a a' c c' w
 ·exact eqBoolS_of l a a' c c' w h hn hl hl'
end Go.Proofs.YtodjmpocpfkpaaaGreat
namespace Go.Proofs.YtodjmpocpfkpaaaGreat
open Go.RowKit

set_option maxHeartbeats 400000 in
theorem eqSym_same (a b : Int) (w : World) : Calls Tryz.prog 78 #[.agg #[.int .i64 a, .int .i64 b], .agg #[.int .i64 a, .int .i64 b]] w fun e w' => e = .returned (.bool true) ∧ Below w.heap.size w w' := by
 go_enter Tryz.func78, Tryz.ntmps78
 go_wp2
 go_ret
 exact ⟨rfl, ((Below.refl _ _).alloc (Nat.le_refl _) _).alloc (by simp) _⟩
set_option maxRecDepth 100000 in
set_option maxHeartbeats 400000 in
theorem eqSymS_nil (a a' : Option Addr) (c c' : Nat) (w : World) : Calls Tryz.prog 51 #[.slice a 0 c, .slice a' 0 c'] w fun e w' => e = .returned (.bool true) ∧ Below w.heap.size w w' := by
 go_enter Tryz.func51, Tryz.ntmps51
 go_wp2
 go_loopw [5] (fun i w' => i = .int .i64 0 ∧ w' = w) (fun i _ => 0)
 case atStart => exact ⟨rfl, rfl⟩
 case round =>
  obtain ⟨rfl, rfl⟩ := hrel
  go_wp2
  go_ret
  exact ⟨rfl, Below.refl _ _⟩
set_option maxRecDepth 100000 in
set_option maxHeartbeats 800000 in
theorem eqSymS_of (l : List Y) (a a' : Option Addr) (c c' : Nat) (w : World) (h0 : 0 < l.length) (hn : l.length ≤ maxLen) (hl : At eY w a l) (hl' : At eY w a' l) :
  Calls Tryz.prog 51 #[.slice a l.length c, .slice a' l.length c'] w fun e w' => e = .returned (.bool true) ∧ Below w.heap.size w w' := by
 unfold maxLen at hn
 obtain ⟨b, off, rfl, hlb, _⟩ := hl.cons h0
 obtain ⟨b', off', rfl, hlb', _⟩ := hl'.cons h0
 have HL := mkHid hl
 have HL' := mkHid hl'
 clear hl hl'
 go_enter Tryz.func51, Tryz.ntmps51
 go_wp2
 go_loopw [5] (fun i w' => ∃ (k : Nat), k ≤ l.length ∧ i = .int .i64 k ∧ Below w.heap.size w w') (fun i _ => l.length - (intOf i).toNat)
 case atStart => exact ⟨0, Nat.zero_le _, rfl, Below.refl _ _⟩
 case round =>
  obtain ⟨k, hk, rfl, hbel⟩ := hrel
  have HB := mkHid hbel
  by_cases hlt : k < l.length
  ·obtain ⟨x, hx⟩ : ∃ x, l[k]? = some x := ⟨_, List.getElem?_eq_getElem hlt⟩
   obtain ⟨_, _, e, hlc, hq⟩ := (HL.out.below hbel).cons h0
   cases e
   obtain ⟨_, _, e, hlc', hq'⟩ := (HL'.out.below hbel).cons h0
   cases e
   obtain ⟨hc0, hc1⟩ := get_y hq hx
   obtain ⟨hd0, hd1⟩ := get_y hq' hx
   clear hx hbel hq hq'
   have i0 : (0 : Int) ≤ (k : Int) := by omega
   have i1 : (k : Int) < (l.length : Int) := by omega
   go_wp2
   go_region_held3 (fun w' => w'.cell? ⟨b, off + k * 2, none⟩ = some (.int .i64 x.1) ∧ w'.cell? ⟨b, off + k * 2 + 1, none⟩ = some (.int .i64 x.2) ∧ w'.cell? ⟨b', off' + k * 2, none⟩ = some (.int .i64 x.1) ∧ w'.cell? ⟨b', off' + k * 2 + 1, none⟩ = some (.int .i64 x.2)) (first | exact ⟨hc0, hc1, hd0, hd1⟩ | exact ⟨(hc _ _ hlc).trans hc0, (hc _ _ hlc).trans hc1, (hc _ _ hlc').trans hd0, (hc _ _ hlc').trans hd1⟩)
    (first | (go_at_call 78; refine (eqSym_same x.1 x.2 _).mono ?_; rintro e w1 ⟨rfl, hb1⟩; obtain ⟨hc, hf⟩ := bcell hb1))
   have HB1 : Hid (Below w.heap.size w w1) := HB.out.drew.trans (hb1.mono HB.out.drew.size)
   clear hb1 hc hf
   go_wp2
   go_roundw
   case rel => exact ⟨k + 1, by omega, by go_num, HB1.out⟩
   case measure => simp [intOf]; omega
  ·go_wp2
   go_ret
   exact ⟨rfl, HB.out⟩
theorem eqSymS_same (l : List Y) (a a' : Option Addr) (c c' : Nat) (w : World) (hn : l.length ≤ maxLen) (hl : At eY w a l) (hl' : At eY w a' l) :
  Calls Tryz.prog 51 #[.slice a l.length c, .slice a' l.length c'] w fun e w' => e = .returned (.bool true) ∧ Below w.heap.size w w' := by
 rcases Nat.eq_zero_or_pos l.length with h | h
 ·rw [h]; exact eqSymS_nil a a' c c' w
 ·exact eqSymS_of l a a' c c' w h hn hl hl'
end Go.Proofs.YtodjmpocpfkpaaaGreat
