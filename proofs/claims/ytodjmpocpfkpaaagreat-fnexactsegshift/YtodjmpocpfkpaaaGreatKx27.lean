/-
  CONTRACT of the program's dropping of terms out of a row of links.
-/
import Derived.Test.YtodjmpocpfkpaaaGreatKx23
import Derived.Test.YtodjmpocpfkpaaaGreatKx21
import Derived.Test.YtodjmpocpfkpaaaGreatKx26
import Derived.Test.YtodjmpocpfkpaaaGreatKx20
namespace Go.Proofs.YtodjmpocpfkpaaaGreat
open Go.RowKit

def sel {α : Type} (b : Bool) (x y : α) : α := match b with | true => x | false => y
theorem Ch.cut {w : World} {base : Nat} {x : Nat × Lk} {R : List (Nat × Lk)} {q : Option Addr} : ∀ {L : List (Nat × Lk)} {p : Option Addr}, Ch w base (L ++ x :: R) p q → Ch w base L p (some ⟨x.1, 0, none⟩) ∧ ∃ p', LinkO w base x.1 x.2 p' ∧ Ch w base R p' q
 | [], _, ⟨e, p', h1, h2⟩ => ⟨e, p', h1, h2⟩
 | _ :: _, _, ⟨e, p', h1, h2⟩ => by
  obtain ⟨a, b⟩ := Ch.cut h2
  exact ⟨⟨e, p', h1, a⟩, b⟩
/-- A link turned: what stands ahead of it and behind it stays. -/
theorem Ch.upd {w w' : World} {base : Nat} {L R : List (Nat × Lk)} {X : Nat} {k : Lk} {p q r : Option Addr} (hO : Only X w w') (hT : ∃ cur, w.heap[X]? = some (.cells cur 109 (0, 0))) (hL : Ch w base L p (some ⟨X, 0, none⟩)) (hk : LinkO w' base X k r) (hR : Ch w base R r q) (h1 : ∀ x, x ∈ L → x.1 ≠ X) (h2 : ∀ x, x ∈ R → x.1 ≠ X) : Ch w' base (L ++ (X, k) :: R) p q :=
 Ch.app (hL.kept hO hT h1) ⟨rfl, r, hk, hR.kept hO hT h2⟩
theorem nd_parts {L R : List (Nat × Lk)} {x : Nat × Lk} (h : ((L ++ x :: R).map Prod.fst).Nodup) : (∀ y, y ∈ L → y.1 ≠ x.1) ∧ (∀ y, y ∈ R → y.1 ≠ x.1) := by
 simp only [List.map_append, List.map_cons, List.nodup_append, List.nodup_cons] at h
 refine ⟨fun y hy e => ?_, fun y hy e => h.2.1.1 (e ▸ List.mem_map_of_mem hy)⟩
 exact h.2.2 y.1 (List.mem_map_of_mem hy) x.1 List.mem_cons_self e
theorem nd_same {L R : List (Nat × Lk)} {X : Nat} {k k' : Lk} (h : ((L ++ (X, k) :: R).map Prod.fst).Nodup) : ((L ++ (X, k') :: R).map Prod.fst).Nodup := by
 simpa using h
theorem nd_drop {L R : List (Nat × Lk)} {X : Nat} {k k' : Lk} {y : Nat × Lk} (h : ((L ++ (X, k) :: y :: R).map Prod.fst).Nodup) : ((L ++ (X, k') :: R).map Prod.fst).Nodup := by
 simp only [List.map_append, List.map_cons, List.nodup_append, List.nodup_cons] at h ⊢
 obtain ⟨h1, ⟨h2, h3, h4⟩, h5⟩ := h
 refine ⟨h1, ⟨fun e => h2 (List.mem_cons_of_mem _ e), h4⟩, fun a ha b hb => h5 a ha b ?_⟩
 rcases List.mem_cons.1 hb with e | e
 ·rw [e]; exact List.mem_cons_self
 ·exact List.mem_cons_of_mem _ (List.mem_cons_of_mem _ e)
theorem nd_same2 {L R : List (Nat × Lk)} {X Z : Nat} {k j j' : Lk} (h : ((L ++ (X, k) :: (Z, j) :: R).map Prod.fst).Nodup) : ((L ++ (X, k) :: (Z, j') :: R).map Prod.fst).Nodup := by
 simpa using h
/-- Below base nothing has turned, and nothing that is no link. -/
structure BK (base : Nat) (w w' : World) : Prop where
 bel : Below base w w'
 kt : ∀ (q : Nat) (o : Obj), w.heap[q]? = some o → (∀ cur, o ≠ .cells cur 109 (0, 0)) → w'.heap[q]? = some o
theorem BK.of {base : Nat} {w w' : World} (h : Below w.heap.size w w') (hb : base ≤ w.heap.size) : BK base w w' := ⟨h.mono hb, fun q _ ho _ => (h.block q (heap_lt ho)).trans ho⟩
theorem BK.step {base : Nat} {w a b : World} (h : BK base w a) (hb : Below a.heap.size a b) (hs : base ≤ a.heap.size) : BK base w b := ⟨h.bel.trans (hb.mono hs), fun q o ho hn => (hb.block q (heap_lt (h.kt q o ho hn))).trans (h.kt q o ho hn)⟩
theorem BK.only {base Z : Nat} {w a b : World} (h : BK base w a) (hO : Only Z a b) (hs : base ≤ a.heap.size) (hZ : base ≤ Z) (hT : ∃ cur, a.heap[Z]? = some (.cells cur 109 (0, 0))) : BK base w b :=
 ⟨Only.below h.bel hO hs hZ, fun q o ho hn => by
  have h1 := h.kt q o ho hn
  exact (hO.block q (heap_lt h1) (fun e => by cases e; obtain ⟨c, hc⟩ := hT; rw [hc] at h1; exact hn c (Option.some.inj h1).symm)).trans h1⟩
theorem BK.trans {base : Nat} {w a b : World} (h : BK base w a) (g : BK base a b) : BK base w b := ⟨h.bel.trans g.bel, fun q o ho hn => g.kt q o (h.kt q o ho hn) hn⟩
/-- A link has got new terms of its own. -/
theorem rows_upd {w w' : World} {base X : Nat} {k k' : Lk} {P R : List (Nat × Lk)} {p q p2 q2 : Option Addr} (hO : Only X w w') (hP : Ch w base P p q) (hR : Ch w base R p2 q2) (hnd : ((P ++ (X, k) :: R).map Prod.fst).Nodup) (hrd : RowsD w ((P ++ (X, k) :: R).map Prod.fst)) (hnew : ∀ b, rowB w' X = some b → w.heap.size ≤ b) : RowsD w' ((P ++ (X, k') :: R).map Prod.fst) := by
 obtain ⟨n1, n2⟩ := nd_parts hnd
 rw [List.map_append, List.map_cons] at hrd ⊢
 refine RowsD.upd (N := w.heap.size) hrd (fun x hx => ?_) (fun x hx => ?_) hnew
 ·rcases List.mem_append.1 hx with h | h
  ·obtain ⟨y, hy, rfl⟩ := List.mem_map.1 h
   exact rowB_block (hO.block _ (hP.lt y hy) (fun e => n1 y hy (Option.some.inj e)))
  ·obtain ⟨y, hy, rfl⟩ := List.mem_map.1 h
   exact rowB_block (hO.block _ (hR.lt y hy) (fun e => n2 y hy (Option.some.inj e)))
 ·rcases List.mem_append.1 hx with h | h
  ·exact hP.row x h
  ·exact hR.row x h
/-- The next link goes; the link keeps its terms. -/
theorem rows_drop {w w' : World} {base X : Nat} {k k' : Lk} {y : Nat × Lk} {P R : List (Nat × Lk)} {p q p2 q2 : Option Addr} (hO : Only X w w') (hP : Ch w base P p q) (hR : Ch w base R p2 q2) (hnd : ((P ++ (X, k) :: y :: R).map Prod.fst).Nodup) (hrd : RowsD w ((P ++ (X, k) :: y :: R).map Prod.fst)) (hx : rowB w' X = rowB w X) : RowsD w' ((P ++ (X, k') :: R).map Prod.fst) := by
 obtain ⟨n1, n2⟩ := nd_parts hnd
 have h1 : RowsD w ((P ++ (X, k') :: R).map Prod.fst) := by
  refine List.Pairwise.sublist ?_ hrd
  simp only [List.map_append, List.map_cons]
  exact List.Sublist.append_left (List.Sublist.cons_cons _ (List.sublist_cons_self _ _)) _
 refine h1.same fun x hx2 => ?_
 obtain ⟨z, hz, rfl⟩ := List.mem_map.1 hx2
 rcases List.mem_append.1 hz with h | h
 ·exact rowB_block (hO.block _ (hP.lt z h) (fun e => n1 z h (Option.some.inj e)))
 ·rcases List.mem_cons.1 h with rfl | h
  ·exact hx
  ·exact rowB_block (hO.block _ (hR.lt z h) (fun e => n2 z (List.mem_cons_of_mem _ h) (Option.some.inj e)))
/-- What holds at the head of the loop. -/
structure DrI (w wr : World) (base Q X gb : Nat) (ag : Option Addr) (cg : Nat) (G : List Y) (F : List Lk) (L : List (Nat × Lk)) (Xa : Nat) (ka : Lk) (R : List (Nat × Lk)) : Prop where
 ch : Ch wr base (L ++ (Xa, ka) :: R) (some ⟨X, 0, none⟩) none
 nd : ((L ++ (Xa, ka) :: R).map Prod.fst).Nodup
 eq : L.map Prod.snd ++ dropK ka (R.map fun x => filL G x.2) = F
 bel : BK base w wr
 rd : RowsD wr ((L ++ (Xa, ka) :: R).map Prod.fst)
 bs : base ≤ wr.heap.size
 q : wr.heap[Q]? = some (.cells #[.slice ag G.length cg, .func (.func 91) #[] #[]] 103 (0, 0))
 og : Own eY 65 wr gb (.slice ag G.length cg) G
 len : ∀ x, x ∈ R → x.2.b.length ≤ 1048576
theorem q_only {w w' : World} {Q X : Nat} {c : Array Value} (hO : Only X w w') (hQ : w.heap[Q]? = some (.cells c 103 (0, 0))) (hT : ∃ cur, w.heap[X]? = some (.cells cur 109 (0, 0))) : w'.heap[Q]? = some (.cells c 103 (0, 0)) :=
 (hO.block Q (heap_lt hQ) (fun e => by cases e; obtain ⟨c2, h2⟩ := hT; rw [hQ] at h2; simp at h2)).trans hQ
theorem two_cells {w : World} {Q : Nat} {a b : Value} {T : TypeId} (h : w.heap[Q]? = some (.cells #[a, b] T (0, 0))) : w.cell? ⟨Q, 0, none⟩ = some a ∧ w.cell? ⟨Q, 1, none⟩ = some b := ⟨heap_cell h 0, heap_cell h 1⟩
theorem DrI.below {w wr v : World} {base Q X gb : Nat} {ag : Option Addr} {cg : Nat} {G : List Y} {F : List Lk} {L : List (Nat × Lk)} {Xa : Nat} {ka : Lk} {R : List (Nat × Lk)} (h : DrI w wr base Q X gb ag cg G F L Xa ka R) (hb : Below wr.heap.size wr v) : DrI w v base Q X gb ag cg G F L Xa ka R :=
 ⟨h.ch.below hb, h.nd, h.eq, h.bel.step hb h.bs, h.ch.rows_below h.rd hb, Nat.le_trans h.bs hb.size, (hb.block Q (heap_lt h.q)).trans h.q, h.og.below hb, h.len⟩
set_option maxRecDepth 100000 in
set_option maxHeartbeats 6400000 in
theorem drop_any (L : List (Nat × Lk)) (X : Nat) (k : Lk) (base gb : Nat) (G : List Y) (ag : Option Addr) (cg : Nat) (w : World) (hn : ∀ x, x ∈ (X, k) :: L → x.2.b.length ≤ 1048576) (hG : G.length ≤ 1048576) (ha : G.Pairwise LtY) (hog : Own eY 65 w gb (.slice ag G.length cg) G) (hc : Ch w base ((X, k) :: L) (some ⟨X, 0, none⟩) none) (hnd : (((X, k) :: L).map Prod.fst).Nodup) (hrd : RowsD w (((X, k) :: L).map Prod.fst)) (hB : base ≤ w.heap.size) :
  Calls Tryz.prog 72 #[.pointer (some ⟨X, 0, none⟩), .agg #[.slice ag G.length cg, .func (.func 91) #[] #[]]] w fun e w' => e = .returned (.tuple #[]) ∧ BK base w w' ∧ ChN w' base X (dropK (filL G k) (L.map fun x => filL G x.2)) := by
 have HGN := mkHid hG
 have HGA := mkHid ha
 have HN := mkHid hn
 have HND := mkHid hnd
 obtain ⟨F, hF⟩ : ∃ z, dropK (filL G k) (L.map fun x => filL G x.2) = z := ⟨_, rfl⟩
 have HF0 := mkHid hF
 rw [hF]
 obtain ⟨w0, hw0⟩ : ∃ z : World, w.alloc (.cells #[.slice ag G.length cg, .func (.func 91) #[] #[]] 103) = z := ⟨_, rfl⟩
 obtain ⟨Q, hQ⟩ : ∃ z, w.heap.size = z := ⟨_, rfl⟩
 have hal : Below w.heap.size w w0 := by rw [← hw0]; exact bl_alloc (Below.refl _ _) _
 have HB0 : Hid (BK base w w0) := mkHid (BK.of hal hB)
 have HRD := mkHid (hc.rows_below hrd hal)
 have HS0 : Hid (w.heap.size ≤ w0.heap.size) := mkHid hal.size
 have HQ0 : Hid (w0.heap[Q]? = some (.cells #[.slice ag G.length cg, .func (.func 91) #[] #[]] 103 (0, 0))) := mkHid (by rw [← hw0]; exact heap_new _ _ hQ.symm)
 have HOG := mkHid (hog.below hal)
 obtain ⟨_, pp, hk, hcl⟩ := hc.below hal
 have HCL := mkHid hcl
 have HLO : Hid (base ≤ X) := mkHid hk.lo
 obtain ⟨ao, cap, hX0, hon⟩ := hk.mem
 obtain ⟨l, hl⟩ : ∃ z, k.b = z := ⟨_, rfl⟩
 obtain ⟨vv, hvv⟩ : ∃ z, k.v = z := ⟨_, rfl⟩
 obtain ⟨mm, hmm⟩ : ∃ z, k.m = z := ⟨_, rfl⟩
 have hat : ∀ v, Only X w0 v → At eY v ao l := fun v h => by rw [← hl]; exact (own_only hon ⟨_, hX0⟩ h).at
 have hag : ∀ v, Only X w0 v → At eY v ag G := fun v h => (own_only HOG.out ⟨_, hX0⟩ h).at
 have hgone : ∀ v, Only X w0 v → v.cell? ⟨Q, 0, none⟩ = some (.slice ag G.length cg) ∧ v.cell? ⟨Q, 1, none⟩ = some (.func (.func 91) #[] #[]) := fun v h => two_cells (q_only h HQ0.out ⟨_, hX0⟩)
 have HLN : Hid (l.length ≤ 1048576) := mkHid (by rw [← hl]; exact hn _ List.mem_cons_self)
 have hbs : base ≤ w0.heap.size := Nat.le_trans hB HS0.out
 have HKN : Hid (filL G k = ⟨outS l G, vv, mm⟩) := mkHid (by rw [← hl, ← hvv, ← hmm]; rfl)
 rw [hl, hvv, hmm] at hX0
 clear hl hvv hmm hF hal hk hcl hon hn ha hog hc hnd hG hrd
 go_enter Tryz.func72, Tryz.ntmps72
 go_wp2_with fail
 clear hw0 hQ
 refine wp_region_inv2 (fun zA0 L zA va => ∃ (zB : Nat → Bool) (zS : Nat → Value) (g : Option Addr) (c : Nat), L = #[zB 0, zB 1, zB 2, zB 3, zB 4, zB 5, zB 6, zB 7, zB 8, zB 9] ∧ zA = puts zA0 [(6, zS 6), (7, zS 7), (8, zS 8), (9, zS 9), (10, zS 10), (11, zS 11), (12, zS 12), (13, zS 13), (14, zS 14)] ∧ ((zB 0 = true → zS 6 = .pointer (some ⟨X, 0, none⟩)) ∧ (zB 1 = true → zS 7 = .pointer (some ⟨X, 0, none⟩)) ∧ (zB 2 = true → zS 8 = .pointer (some ⟨X, 0, none⟩)) ∧ (zB 3 = true → zS 9 = .pointer (some ⟨X, 0, none⟩)) ∧ (zB 4 = true → zS 10 = .agg #[.slice ao l.length cap, .func (.func 91) #[] #[]]) ∧ (zB 5 = true → zS 11 = .agg #[.slice ag G.length cg, .func (.func 91) #[] #[]]) ∧ (zB 6 = true → zS 12 = .agg #[.slice g (outS l G).length c, .func (.func 91) #[] #[]]) ∧ (zB 7 = true → zS 13 = .pointer (some ⟨X, 0, none⟩)) ∧ (zB 8 = true → zS 14 = .pointer (some ⟨X, 0, none⟩))) ∧ (Only X w0 va) ∧ (va.heap[X]? = some (.cells (lkC (sel (zB 9) (.slice g (outS l G).length c) (.slice ao l.length cap)) vv mm pp) 109 (0, 0))) ∧ ((zB 6) = true → Own eY 65 va w0.heap.size (.slice g (outS l G).length c) (outS l G)) ∧ ((zB 6) = true → (zB 4) = true ∧ (zB 5) = true) ∧ ((zB 9) = true → (zB 6) = true)) (by kernel_rfl) ?_ ?_ ?_
 ·exact ⟨fun _ => false, fun _ => undef, none, 0, rfl, by kernel_rfl, ⟨fun e => ft e, fun e => ft e, fun e => ft e, fun e => ft e, fun e => ft e, fun e => ft e, fun e => ft e, fun e => ft e, fun e => ft e⟩, ⟨(Only.of (Below.refl _ _).drew), hX0, fun e => ft e, fun e => ft e, fun e => ft e⟩⟩
 ·refine StepsI.cons rfl ?_ ?_
  ·rintro L zA va ⟨zB, zS, g, c, rfl, rfl, hF, hW⟩ hL hm K hK
   have hb0 : zB 0 = false := by simpa using hL
   clear hL hm
   simp only [pE]
   have HWz := mkHid hW
   clear hW
   go_simp
   have hW := HWz.out
   clear HWz
   exact hK.out _ _ ⟨fun zj => if zj = 0 then true else zB zj, fun zd => if zd = 6 then .pointer (some ⟨X, 0, none⟩) else zS zd, g, c, rfl, by kernel_rfl, ⟨fun _ => rfl, hF.2.1, hF.2.2.1, hF.2.2.2.1, hF.2.2.2.2.1, hF.2.2.2.2.2.1, hF.2.2.2.2.2.2.1, hF.2.2.2.2.2.2.2.1, hF.2.2.2.2.2.2.2.2⟩, hW⟩
  refine StepsI.cons rfl ?_ ?_
  ·rintro L zA va ⟨zB, zS, g, c, rfl, rfl, hF, hW⟩ hL hm K hK
   have hb1 : zB 1 = false := by simpa using hL
   clear hL hm
   simp only [pE]
   have HWz := mkHid hW
   clear hW
   go_simp
   have hW := HWz.out
   clear HWz
   exact hK.out _ _ ⟨fun zj => if zj = 1 then true else zB zj, fun zd => if zd = 7 then .pointer (some ⟨X, 0, none⟩) else zS zd, g, c, rfl, by kernel_rfl, ⟨hF.1, fun _ => rfl, hF.2.2.1, hF.2.2.2.1, hF.2.2.2.2.1, hF.2.2.2.2.2.1, hF.2.2.2.2.2.2.1, hF.2.2.2.2.2.2.2.1, hF.2.2.2.2.2.2.2.2⟩, hW⟩
  refine StepsI.cons rfl ?_ ?_
  ·rintro L zA va ⟨zB, zS, g, c, rfl, rfl, hF, hW⟩ hL hm K hK
   have hb2 : zB 2 = false := by simpa using hL
   have hb1 : zB 1 = true := mt 1 hm (by kernel_rfl)
   have e1 : zS 7 = .pointer (some ⟨X, 0, none⟩) := hF.2.1 hb1
   clear hL hm
   simp only [pE]
   simp only [e1]
   have HWz := mkHid hW
   clear hW
   go_simp
   have hW := HWz.out
   clear HWz
   exact hK.out _ _ ⟨fun zj => if zj = 1 then true else if zj = 2 then true else zB zj, fun zd => if zd = 8 then .pointer (some ⟨X, 0, none⟩) else if zd = 7 then .pointer (some ⟨X, 0, none⟩) else zS zd, g, c, by simp [hb1], by kernel_rfl, ⟨hF.1, fun _ => rfl, fun _ => rfl, hF.2.2.2.1, hF.2.2.2.2.1, hF.2.2.2.2.2.1, hF.2.2.2.2.2.2.1, hF.2.2.2.2.2.2.2.1, hF.2.2.2.2.2.2.2.2⟩, hW⟩
  refine StepsI.cons rfl ?_ ?_
  ·rintro L zA va ⟨zB, zS, g, c, rfl, rfl, hF, hW⟩ hL hm K hK
   have hb3 : zB 3 = false := by simpa using hL
   have hb2 : zB 2 = true := mt 2 hm (by kernel_rfl)
   have e2 : zS 8 = .pointer (some ⟨X, 0, none⟩) := hF.2.2.1 hb2
   clear hL hm
   simp only [pE]
   simp only [e2]
   have HWz := mkHid hW
   clear hW
   go_simp
   have hW := HWz.out
   clear HWz
   exact hK.out _ _ ⟨fun zj => if zj = 2 then true else if zj = 3 then true else zB zj, fun zd => if zd = 9 then .pointer (some ⟨X, 0, none⟩) else if zd = 8 then .pointer (some ⟨X, 0, none⟩) else zS zd, g, c, by simp [hb2], by kernel_rfl, ⟨hF.1, hF.2.1, fun _ => rfl, fun _ => rfl, hF.2.2.2.2.1, hF.2.2.2.2.2.1, hF.2.2.2.2.2.2.1, hF.2.2.2.2.2.2.2.1, hF.2.2.2.2.2.2.2.2⟩, hW⟩
  refine StepsI.cons rfl ?_ ?_
  ·rintro L zA va ⟨zB, zS, g, c, rfl, rfl, hF, hW⟩ hL hm K hK
   have hb4 : zB 4 = false := by simpa using hL
   have hb3 : zB 3 = true := mt 3 hm (by kernel_rfl)
   have e3 : zS 9 = .pointer (some ⟨X, 0, none⟩) := hF.2.2.2.1 hb3
   clear hL hm
   rw [hb4] at hW
   simp only [pE]
   simp only [e3]
   have h6 : zB 6 = false := by cases e : zB 6 with | false => rfl | true => exact ft (hW.2.2.2.1 e).1
   have h9 : zB 9 = false := by cases e : zB 9 with | false => rfl | true => exact ft (h6.symm.trans (hW.2.2.2.2 e))
   have hC := hW.2.1
   rw [h9] at hC
   obtain ⟨c0, c1, _, _, _, _, _, _, _, _, _, _, _, _⟩ := cel_of hC
   simp only [sel] at c0
   have HWz := mkHid hW
   clear hW
   go_simp
   have hW := HWz.out
   clear HWz
   exact hK.out _ _ ⟨fun zj => if zj = 3 then true else if zj = 4 then true else zB zj, fun zd => if zd = 10 then .agg #[.slice ao l.length cap, .func (.func 91) #[] #[]] else if zd = 9 then .pointer (some ⟨X, 0, none⟩) else zS zd, g, c, by simp [hb3], by kernel_rfl, ⟨hF.1, hF.2.1, hF.2.2.1, fun _ => rfl, fun _ => rfl, hF.2.2.2.2.2.1, hF.2.2.2.2.2.2.1, hF.2.2.2.2.2.2.2.1, hF.2.2.2.2.2.2.2.2⟩, ⟨hW.1, hW.2.1, hW.2.2.1, fun e => ft (h6.symm.trans e), hW.2.2.2.2⟩⟩
  refine StepsI.cons rfl ?_ ?_
  ·rintro L zA va ⟨zB, zS, g, c, rfl, rfl, hF, hW⟩ hL hm K hK
   have hb5 : zB 5 = false := by simpa using hL
   clear hL hm
   rw [hb5] at hW
   simp only [pE]
   have h6 : zB 6 = false := by cases e : zB 6 with | false => rfl | true => exact ft (hW.2.2.2.1 e).2
   have h9 : zB 9 = false := by cases e : zB 9 with | false => rfl | true => exact ft (h6.symm.trans (hW.2.2.2.2 e))
   obtain ⟨q0, q1⟩ := hgone va hW.1
   have HWz := mkHid hW
   clear hW
   go_simp
   have hW := HWz.out
   clear HWz
   exact hK.out _ _ ⟨fun zj => if zj = 5 then true else zB zj, fun zd => if zd = 11 then .agg #[.slice ag G.length cg, .func (.func 91) #[] #[]] else zS zd, g, c, rfl, by kernel_rfl, ⟨hF.1, hF.2.1, hF.2.2.1, hF.2.2.2.1, hF.2.2.2.2.1, fun _ => rfl, hF.2.2.2.2.2.2.1, hF.2.2.2.2.2.2.2.1, hF.2.2.2.2.2.2.2.2⟩, ⟨hW.1, hW.2.1, hW.2.2.1, fun e => ft (h6.symm.trans e), hW.2.2.2.2⟩⟩
  refine StepsI.cons rfl ?_ ?_
  ·rintro L zA va ⟨zB, zS, g, c, rfl, rfl, hF, hW⟩ hL hm K hK
   have hb6 : zB 6 = false := by simpa using hL
   have hb4 : zB 4 = true := mt 4 hm (by kernel_rfl)
   have hb5 : zB 5 = true := mt 5 hm (by kernel_rfl)
   have e4 : zS 10 = .agg #[.slice ao l.length cap, .func (.func 91) #[] #[]] := hF.2.2.2.2.1 hb4
   have e5 : zS 11 = .agg #[.slice ag G.length cg, .func (.func 91) #[] #[]] := hF.2.2.2.2.2.1 hb5
   clear hL hm
   rw [hb6] at hW
   rw [hb4] at hW
   rw [hb5] at hW
   simp only [pE]
   simp only [e4, e5]
   have h9 : zB 9 = false := by cases e : zB 9 with | false => rfl | true => exact ft (hW.2.2.2.2 e)
   have HWz := mkHid hW
   clear hW
   go_simp
   have hW := HWz.out
   clear HWz
   refine (without_any l G ao ag cap cg _ HLN.out HGN.out HGA.out (hat va hW.1) (hag va hW.1)).mono ?_
   rintro e va2 ⟨hb, g9, c9, rfl, hown⟩
   have hC9 : va.heap[X]? = some (.cells (lkC (sel (zB 9) (.slice g9 (outS l G).length c9) (.slice ao l.length cap)) vv mm pp) 109 (0, 0)) := by rw [h9]; have hC := hW.2.1; rw [h9] at hC; exact hC
   have HWz := mkHid hW
   clear hW
   go_wp2_with fail
   have hW := HWz.out
   clear HWz
   exact hK.out _ _ ⟨fun zj => if zj = 5 then true else if zj = 4 then true else if zj = 6 then true else zB zj, fun zd => if zd = 12 then .agg #[.slice g9 (outS l G).length c9, .func (.func 91) #[] #[]] else if zd = 11 then .agg #[.slice ag G.length cg, .func (.func 91) #[] #[]] else if zd = 10 then .agg #[.slice ao l.length cap, .func (.func 91) #[] #[]] else zS zd, g9, c9, by simp [hb4, hb5], by kernel_rfl, ⟨hF.1, hF.2.1, hF.2.2.1, hF.2.2.2.1, fun _ => rfl, fun _ => rfl, fun _ => rfl, hF.2.2.2.2.2.2.2.1, hF.2.2.2.2.2.2.2.2⟩, ⟨hW.1.trans (Only.of hb), (hb.block _ (heap_lt hC9)).trans hC9, fun _ => hown.mono hW.1.size, fun _ => ⟨rfl, rfl⟩, fun _ => rfl⟩⟩
  refine StepsI.cons rfl ?_ ?_
  ·rintro L zA va ⟨zB, zS, g, c, rfl, rfl, hF, hW⟩ hL hm K hK
   have hb7 : zB 7 = false := by simpa using hL
   have hb0 : zB 0 = true := mt 0 hm (by kernel_rfl)
   have e0 : zS 6 = .pointer (some ⟨X, 0, none⟩) := hF.1 hb0
   clear hL hm
   simp only [pE]
   simp only [e0]
   have HWz := mkHid hW
   clear hW
   go_simp
   have hW := HWz.out
   clear HWz
   exact hK.out _ _ ⟨fun zj => if zj = 0 then true else if zj = 7 then true else zB zj, fun zd => if zd = 13 then .pointer (some ⟨X, 0, none⟩) else if zd = 6 then .pointer (some ⟨X, 0, none⟩) else zS zd, g, c, by simp [hb0], by kernel_rfl, ⟨fun _ => rfl, hF.2.1, hF.2.2.1, hF.2.2.2.1, hF.2.2.2.2.1, hF.2.2.2.2.2.1, hF.2.2.2.2.2.2.1, fun _ => rfl, hF.2.2.2.2.2.2.2.2⟩, hW⟩
  refine StepsI.cons rfl ?_ ?_
  ·rintro L zA va ⟨zB, zS, g, c, rfl, rfl, hF, hW⟩ hL hm K hK
   have hb8 : zB 8 = false := by simpa using hL
   have hb7 : zB 7 = true := mt 7 hm (by kernel_rfl)
   have e7 : zS 13 = .pointer (some ⟨X, 0, none⟩) := hF.2.2.2.2.2.2.2.1 hb7
   clear hL hm
   simp only [pE]
   simp only [e7]
   have HWz := mkHid hW
   clear hW
   go_simp
   have hW := HWz.out
   clear HWz
   exact hK.out _ _ ⟨fun zj => if zj = 7 then true else if zj = 8 then true else zB zj, fun zd => if zd = 14 then .pointer (some ⟨X, 0, none⟩) else if zd = 13 then .pointer (some ⟨X, 0, none⟩) else zS zd, g, c, by simp [hb7], by kernel_rfl, ⟨hF.1, hF.2.1, hF.2.2.1, hF.2.2.2.1, hF.2.2.2.2.1, hF.2.2.2.2.2.1, hF.2.2.2.2.2.2.1, fun _ => rfl, fun _ => rfl⟩, hW⟩
  refine StepsI.cons rfl ?_ ?_
  ·rintro L zA va ⟨zB, zS, g, c, rfl, rfl, hF, hW⟩ hL hm K hK
   have hb9 : zB 9 = false := by simpa using hL
   have hb6 : zB 6 = true := mt 6 hm (by kernel_rfl)
   have hb8 : zB 8 = true := mt 8 hm (by kernel_rfl)
   have e6 : zS 12 = .agg #[.slice g (outS l G).length c, .func (.func 91) #[] #[]] := hF.2.2.2.2.2.2.1 hb6
   have e8 : zS 14 = .pointer (some ⟨X, 0, none⟩) := hF.2.2.2.2.2.2.2.2 hb8
   clear hL hm
   rw [hb9] at hW
   rw [hb6] at hW
   simp only [pE]
   simp only [e6, e8]
   have hC := hW.2.1
   obtain ⟨c0, c1, _, _, _, _, _, f0, f1, _, _, _, _, _⟩ := cel_of hC
   have HWz := mkHid hW
   clear hW
   go_simp
   have hW := HWz.out
   clear HWz
   exact hK.out _ _ ⟨fun zj => if zj = 8 then true else if zj = 6 then true else if zj = 9 then true else zB zj, fun zd => if zd = 14 then .pointer (some ⟨X, 0, none⟩) else if zd = 12 then .agg #[.slice g (outS l G).length c, .func (.func 91) #[] #[]] else zS zd, g, c, by simp [hb6, hb8], by kernel_rfl, ⟨hF.1, hF.2.1, hF.2.2.1, hF.2.2.2.1, hF.2.2.2.2.1, hF.2.2.2.2.2.1, fun _ => rfl, hF.2.2.2.2.2.2.2.1, fun _ => rfl⟩, ⟨(hW.1.trans (Only.set _ _ _ _)).trans (Only.set _ _ _ _), by rw [heap_set_self (heap_set_self hW.2.1 _ _)]; rfl, fun _ => own_only (own_only (hW.2.2.1 rfl) ⟨_, hW.2.1⟩ (Only.set _ _ _ _)) ⟨_, heap_set_self hW.2.1 _ _⟩ (Only.set _ _ _ _), hW.2.2.2.1, fun _ => rfl⟩⟩
  exact StepsI.nil (by kernel_rfl)
 ·rintro L zA va ⟨zB, zS, g, c, rfl, rfl, hF, hW⟩ hr
  have hu := all_up (by kernel_rfl) (N := 10) (by kernel_rfl) hr
  have hb0 : zB 0 = true := by simpa using hu 0 (by decide)
  have hb1 : zB 1 = true := by simpa using hu 1 (by decide)
  have hb2 : zB 2 = true := by simpa using hu 2 (by decide)
  have hb3 : zB 3 = true := by simpa using hu 3 (by decide)
  have hb4 : zB 4 = true := by simpa using hu 4 (by decide)
  have hb5 : zB 5 = true := by simpa using hu 5 (by decide)
  have hb6 : zB 6 = true := by simpa using hu 6 (by decide)
  have hb7 : zB 7 = true := by simpa using hu 7 (by decide)
  have hb8 : zB 8 = true := by simpa using hu 8 (by decide)
  have hb9 : zB 9 = true := by simpa using hu 9 (by decide)
  have e0 : zS 6 = .pointer (some ⟨X, 0, none⟩) := hF.1 hb0
  have e1 : zS 7 = .pointer (some ⟨X, 0, none⟩) := hF.2.1 hb1
  have e2 : zS 8 = .pointer (some ⟨X, 0, none⟩) := hF.2.2.1 hb2
  have e3 : zS 9 = .pointer (some ⟨X, 0, none⟩) := hF.2.2.2.1 hb3
  have e4 : zS 10 = .agg #[.slice ao l.length cap, .func (.func 91) #[] #[]] := hF.2.2.2.2.1 hb4
  have e5 : zS 11 = .agg #[.slice ag G.length cg, .func (.func 91) #[] #[]] := hF.2.2.2.2.2.1 hb5
  have e6 : zS 12 = .agg #[.slice g (outS l G).length c, .func (.func 91) #[] #[]] := hF.2.2.2.2.2.2.1 hb6
  have e7 : zS 13 = .pointer (some ⟨X, 0, none⟩) := hF.2.2.2.2.2.2.2.1 hb7
  have e8 : zS 14 = .pointer (some ⟨X, 0, none⟩) := hF.2.2.2.2.2.2.2.2 hb8
  rw [hb4] at hW
  rw [hb5] at hW
  rw [hb6] at hW
  rw [hb9] at hW
  clear hu hr hF
  simp only [pE]
  simp only [e0, e1, e2, e3, e4, e5, e6, e7, e8]
  clear e0 e1 e2 e3 e4 e5 e6 e7 e8
  clear hb0 hb1 hb2 hb3 hb4 hb5 hb6 hb7 hb8 hb9
  clear zB zS
  have hO := hW.1
  have hH := hW.2.1
  have hOW := hW.2.2.1 rfl
  clear hW
  simp only [sel] at hH
  have HI : Hid (DrI w va base Q X gb ag cg G (dropK (filL G k) (L.map fun x => filL G x.2)) [] X (filL G k) L) := mkHid (by
   refine ⟨Ch.upd (L := []) hO ⟨_, hX0⟩ rfl (by rw [HKN.out]; exact ⟨⟨g, c, hH, hOW.mono (Nat.le_trans hB HS0.out)⟩, HLO.out⟩) HCL.out (fun _ h => by simp at h) (nd_parts (L := []) HND.out).2, nd_same HND.out, rfl, BK.only HB0.out hO (Nat.le_trans hB HS0.out) HLO.out ⟨_, hX0⟩, rows_upd (P := []) (p := none) (q := none) hO rfl HCL.out HND.out HRD.out (fun b hb => by rw [rowB_of hH] at hb; exact (hOW.lt hb).1), Nat.le_trans (Nat.le_trans hB HS0.out) hO.size, q_only hO HQ0.out ⟨_, hX0⟩, own_only HOG.out ⟨_, hX0⟩ hO, fun x hx => HN.out x (List.mem_cons_of_mem _ hx)⟩)
  clear hO hH hOW hX0 hat hag hgone
  go_wp2
  clear HOG HQ0 HCL HND HB0 HS0 HLN HRD
  go_loopg [4, 5] L.length (fun g s4 s5 wr => ∃ (P1 : List (Nat × Lk)) (Xa : Nat) (ka : Lk) (R : List (Nat × Lk)), s4 = .pointer (some ⟨Xa, 0, none⟩) ∧ R.length ≤ g ∧ DrI w wr base Q X gb ag cg G F P1 Xa ka R)
  case atStart => exact ⟨[], X, filL G k, L, rfl, Nat.le_refl _, by rw [← HF0.out]; exact HI.out⟩
  case round =>
   obtain ⟨P1, Xa, ka, R, rfl, hgR, hdr⟩ := hrel
   have HDR := mkHid hdr
   clear hdr HI HF0
   obtain ⟨hP, pz, hA, hR⟩ := HDR.out.ch.cut
   have HP := mkHid hP
   have HA := mkHid hA
   obtain ⟨az, cz, hz, _⟩ := hA.mem
   obtain ⟨_, _, _, _, _, _, c6, _, _, _, _, _, _, _⟩ := cel_of hz
   cases R with
   | nil =>
    cases hR
    clear hP hA hz
    go_wp2
    refine bodyPost_end (results_none rfl _ _ _) rfl ⟨rfl, HDR.out.bel, P1 ++ [(Xa, ka)], HDR.out.ch, ?_, HDR.out.nd, HDR.out.rd⟩
    have h := HDR.out.eq
    simpa [dropK] using h
   | cons y R =>
    obtain ⟨Xn, kn⟩ := y
    obtain ⟨e, pp, hN, hRR⟩ := hR
    cases e
    have hgR : R.length < gk := by simp at hgR; omega
    have HRR := mkHid hRR
    have HNE : Hid (Xa ≠ Xn) := mkHid fun e => (nd_parts HDR.out.nd).2 (Xn, kn) List.mem_cons_self e.symm
    have HNL : Hid (base ≤ Xn) := mkHid hN.lo
    obtain ⟨ao, cap, hX0, hon⟩ := hN.mem
    obtain ⟨l, hl⟩ : ∃ z, kn.b = z := ⟨_, rfl⟩
    obtain ⟨vv, hvv⟩ : ∃ z, kn.v = z := ⟨_, rfl⟩
    obtain ⟨mm, hmm⟩ : ∃ z, kn.m = z := ⟨_, rfl⟩
    have hat : ∀ v, Only Xn wr v → At eY v ao l := fun v h => by rw [← hl]; exact (own_only hon ⟨_, hX0⟩ h).at
    have hag : ∀ v, Only Xn wr v → At eY v ag G := fun v h => (own_only HDR.out.og ⟨_, hX0⟩ h).at
    have hgone : ∀ v, Only Xn wr v → v.cell? ⟨Q, 0, none⟩ = some (.slice ag G.length cg) ∧ v.cell? ⟨Q, 1, none⟩ = some (.func (.func 91) #[] #[]) := fun v h => two_cells (q_only h HDR.out.q ⟨_, hX0⟩)
    have HLN : Hid (l.length ≤ 1048576) := mkHid (by rw [← hl]; exact HDR.out.len _ List.mem_cons_self)
    have hbs := HDR.out.bs
    have HKN : Hid (filL G kn = ⟨outS l G, vv, mm⟩) := mkHid (by rw [← hl, ← hvv, ← hmm]; rfl)
    rw [hl, hvv, hmm] at hX0
    clear hl hvv hmm hP hA hz hN hRR hon
    go_wp2_with fail
    clear c6
    refine wp_region_inv2 (fun zA0 L zA va => ∃ (zB : Nat → Bool) (zS : Nat → Value) (g : Option Addr) (c : Nat), L = #[zB 0, zB 1, zB 2, zB 3, zB 4, zB 5, zB 6, zB 7, zB 8, zB 9] ∧ zA = puts zA0 [(25, zS 25), (26, zS 26), (27, zS 27), (28, zS 28), (29, zS 29), (30, zS 30), (31, zS 31), (32, zS 32), (33, zS 33)] ∧ ((zB 0 = true → zS 25 = .pointer (some ⟨Xn, 0, none⟩)) ∧ (zB 1 = true → zS 26 = .pointer (some ⟨Xn, 0, none⟩)) ∧ (zB 2 = true → zS 27 = .pointer (some ⟨Xn, 0, none⟩)) ∧ (zB 3 = true → zS 28 = .pointer (some ⟨Xn, 0, none⟩)) ∧ (zB 4 = true → zS 29 = .agg #[.slice ao l.length cap, .func (.func 91) #[] #[]]) ∧ (zB 5 = true → zS 30 = .agg #[.slice ag G.length cg, .func (.func 91) #[] #[]]) ∧ (zB 6 = true → zS 31 = .agg #[.slice g (outS l G).length c, .func (.func 91) #[] #[]]) ∧ (zB 7 = true → zS 32 = .pointer (some ⟨Xn, 0, none⟩)) ∧ (zB 8 = true → zS 33 = .pointer (some ⟨Xn, 0, none⟩))) ∧ (Only Xn wr va) ∧ (va.heap[Xn]? = some (.cells (lkC (sel (zB 9) (.slice g (outS l G).length c) (.slice ao l.length cap)) vv mm pp) 109 (0, 0))) ∧ ((zB 6) = true → Own eY 65 va wr.heap.size (.slice g (outS l G).length c) (outS l G)) ∧ ((zB 6) = true → (zB 4) = true ∧ (zB 5) = true) ∧ ((zB 9) = true → (zB 6) = true)) (by kernel_rfl) ?_ ?_ ?_
    ·exact ⟨fun _ => false, fun zd => if zd = 33 then u33 else if zd = 32 then u32 else if zd = 31 then u31 else if zd = 30 then u30 else if zd = 29 then u29 else if zd = 28 then u28 else if zd = 27 then u27 else if zd = 26 then u26 else if zd = 25 then u25 else undef, none, 0, rfl, by kernel_rfl, ⟨fun e => ft e, fun e => ft e, fun e => ft e, fun e => ft e, fun e => ft e, fun e => ft e, fun e => ft e, fun e => ft e, fun e => ft e⟩, ⟨(Only.of (Below.refl _ _).drew), hX0, fun e => ft e, fun e => ft e, fun e => ft e⟩⟩
    ·refine StepsI.cons rfl ?_ ?_
     ·rintro L zA va ⟨zB, zS, g, c, rfl, rfl, hF, hW⟩ hL hm K hK
      have hb0 : zB 0 = false := by simpa using hL
      clear hL hm
      simp only [pE]
      have HWz := mkHid hW
      clear hW
      go_simp
      have hW := HWz.out
      clear HWz
      exact hK.out _ _ ⟨fun zj => if zj = 0 then true else zB zj, fun zd => if zd = 25 then .pointer (some ⟨Xn, 0, none⟩) else zS zd, g, c, rfl, by kernel_rfl, ⟨fun _ => rfl, hF.2.1, hF.2.2.1, hF.2.2.2.1, hF.2.2.2.2.1, hF.2.2.2.2.2.1, hF.2.2.2.2.2.2.1, hF.2.2.2.2.2.2.2.1, hF.2.2.2.2.2.2.2.2⟩, hW⟩
     refine StepsI.cons rfl ?_ ?_
     ·rintro L zA va ⟨zB, zS, g, c, rfl, rfl, hF, hW⟩ hL hm K hK
      have hb1 : zB 1 = false := by simpa using hL
      clear hL hm
      simp only [pE]
      have HWz := mkHid hW
      clear hW
      go_simp
      have hW := HWz.out
      clear HWz
      exact hK.out _ _ ⟨fun zj => if zj = 1 then true else zB zj, fun zd => if zd = 26 then .pointer (some ⟨Xn, 0, none⟩) else zS zd, g, c, rfl, by kernel_rfl, ⟨hF.1, fun _ => rfl, hF.2.2.1, hF.2.2.2.1, hF.2.2.2.2.1, hF.2.2.2.2.2.1, hF.2.2.2.2.2.2.1, hF.2.2.2.2.2.2.2.1, hF.2.2.2.2.2.2.2.2⟩, hW⟩
     refine StepsI.cons rfl ?_ ?_
     ·rintro L zA va ⟨zB, zS, g, c, rfl, rfl, hF, hW⟩ hL hm K hK
      have hb2 : zB 2 = false := by simpa using hL
      have hb1 : zB 1 = true := mt 1 hm (by kernel_rfl)
      have e1 : zS 26 = .pointer (some ⟨Xn, 0, none⟩) := hF.2.1 hb1
      clear hL hm
      simp only [pE]
      simp only [e1]
      have HWz := mkHid hW
      clear hW
      go_simp
      have hW := HWz.out
      clear HWz
      exact hK.out _ _ ⟨fun zj => if zj = 1 then true else if zj = 2 then true else zB zj, fun zd => if zd = 27 then .pointer (some ⟨Xn, 0, none⟩) else if zd = 26 then .pointer (some ⟨Xn, 0, none⟩) else zS zd, g, c, by simp [hb1], by kernel_rfl, ⟨hF.1, fun _ => rfl, fun _ => rfl, hF.2.2.2.1, hF.2.2.2.2.1, hF.2.2.2.2.2.1, hF.2.2.2.2.2.2.1, hF.2.2.2.2.2.2.2.1, hF.2.2.2.2.2.2.2.2⟩, hW⟩
     refine StepsI.cons rfl ?_ ?_
     ·rintro L zA va ⟨zB, zS, g, c, rfl, rfl, hF, hW⟩ hL hm K hK
      have hb3 : zB 3 = false := by simpa using hL
      have hb2 : zB 2 = true := mt 2 hm (by kernel_rfl)
      have e2 : zS 27 = .pointer (some ⟨Xn, 0, none⟩) := hF.2.2.1 hb2
      clear hL hm
      simp only [pE]
      simp only [e2]
      have HWz := mkHid hW
      clear hW
      go_simp
      have hW := HWz.out
      clear HWz
      exact hK.out _ _ ⟨fun zj => if zj = 2 then true else if zj = 3 then true else zB zj, fun zd => if zd = 28 then .pointer (some ⟨Xn, 0, none⟩) else if zd = 27 then .pointer (some ⟨Xn, 0, none⟩) else zS zd, g, c, by simp [hb2], by kernel_rfl, ⟨hF.1, hF.2.1, fun _ => rfl, fun _ => rfl, hF.2.2.2.2.1, hF.2.2.2.2.2.1, hF.2.2.2.2.2.2.1, hF.2.2.2.2.2.2.2.1, hF.2.2.2.2.2.2.2.2⟩, hW⟩
     refine StepsI.cons rfl ?_ ?_
     ·rintro L zA va ⟨zB, zS, g, c, rfl, rfl, hF, hW⟩ hL hm K hK
      have hb4 : zB 4 = false := by simpa using hL
      have hb3 : zB 3 = true := mt 3 hm (by kernel_rfl)
      have e3 : zS 28 = .pointer (some ⟨Xn, 0, none⟩) := hF.2.2.2.1 hb3
      clear hL hm
      rw [hb4] at hW
      simp only [pE]
      simp only [e3]
      have h6 : zB 6 = false := by cases e : zB 6 with | false => rfl | true => exact ft (hW.2.2.2.1 e).1
      have h9 : zB 9 = false := by cases e : zB 9 with | false => rfl | true => exact ft (h6.symm.trans (hW.2.2.2.2 e))
      have hC := hW.2.1
      rw [h9] at hC
      obtain ⟨c0, c1, _, _, _, _, _, _, _, _, _, _, _, _⟩ := cel_of hC
      simp only [sel] at c0
      have HWz := mkHid hW
      clear hW
      go_simp
      have hW := HWz.out
      clear HWz
      exact hK.out _ _ ⟨fun zj => if zj = 3 then true else if zj = 4 then true else zB zj, fun zd => if zd = 29 then .agg #[.slice ao l.length cap, .func (.func 91) #[] #[]] else if zd = 28 then .pointer (some ⟨Xn, 0, none⟩) else zS zd, g, c, by simp [hb3], by kernel_rfl, ⟨hF.1, hF.2.1, hF.2.2.1, fun _ => rfl, fun _ => rfl, hF.2.2.2.2.2.1, hF.2.2.2.2.2.2.1, hF.2.2.2.2.2.2.2.1, hF.2.2.2.2.2.2.2.2⟩, ⟨hW.1, hW.2.1, hW.2.2.1, fun e => ft (h6.symm.trans e), hW.2.2.2.2⟩⟩
     refine StepsI.cons rfl ?_ ?_
     ·rintro L zA va ⟨zB, zS, g, c, rfl, rfl, hF, hW⟩ hL hm K hK
      have hb5 : zB 5 = false := by simpa using hL
      clear hL hm
      rw [hb5] at hW
      simp only [pE]
      have h6 : zB 6 = false := by cases e : zB 6 with | false => rfl | true => exact ft (hW.2.2.2.1 e).2
      have h9 : zB 9 = false := by cases e : zB 9 with | false => rfl | true => exact ft (h6.symm.trans (hW.2.2.2.2 e))
      obtain ⟨q0, q1⟩ := hgone va hW.1
      have HWz := mkHid hW
      clear hW
      go_simp
      have hW := HWz.out
      clear HWz
      exact hK.out _ _ ⟨fun zj => if zj = 5 then true else zB zj, fun zd => if zd = 30 then .agg #[.slice ag G.length cg, .func (.func 91) #[] #[]] else zS zd, g, c, rfl, by kernel_rfl, ⟨hF.1, hF.2.1, hF.2.2.1, hF.2.2.2.1, hF.2.2.2.2.1, fun _ => rfl, hF.2.2.2.2.2.2.1, hF.2.2.2.2.2.2.2.1, hF.2.2.2.2.2.2.2.2⟩, ⟨hW.1, hW.2.1, hW.2.2.1, fun e => ft (h6.symm.trans e), hW.2.2.2.2⟩⟩
     refine StepsI.cons rfl ?_ ?_
     ·rintro L zA va ⟨zB, zS, g, c, rfl, rfl, hF, hW⟩ hL hm K hK
      have hb6 : zB 6 = false := by simpa using hL
      have hb4 : zB 4 = true := mt 4 hm (by kernel_rfl)
      have hb5 : zB 5 = true := mt 5 hm (by kernel_rfl)
      have e4 : zS 29 = .agg #[.slice ao l.length cap, .func (.func 91) #[] #[]] := hF.2.2.2.2.1 hb4
      have e5 : zS 30 = .agg #[.slice ag G.length cg, .func (.func 91) #[] #[]] := hF.2.2.2.2.2.1 hb5
      clear hL hm
      rw [hb6] at hW
      rw [hb4] at hW
      rw [hb5] at hW
      simp only [pE]
      simp only [e4, e5]
      have h9 : zB 9 = false := by cases e : zB 9 with | false => rfl | true => exact ft (hW.2.2.2.2 e)
      have HWz := mkHid hW
      clear hW
      go_simp
      have hW := HWz.out
      clear HWz
      refine (without_any l G ao ag cap cg _ HLN.out HGN.out HGA.out (hat va hW.1) (hag va hW.1)).mono ?_
      rintro e va2 ⟨hb, g9, c9, rfl, hown⟩
      have hC9 : va.heap[Xn]? = some (.cells (lkC (sel (zB 9) (.slice g9 (outS l G).length c9) (.slice ao l.length cap)) vv mm pp) 109 (0, 0)) := by rw [h9]; have hC := hW.2.1; rw [h9] at hC; exact hC
      have HWz := mkHid hW
      clear hW
      go_wp2_with fail
      have hW := HWz.out
      clear HWz
      exact hK.out _ _ ⟨fun zj => if zj = 5 then true else if zj = 4 then true else if zj = 6 then true else zB zj, fun zd => if zd = 31 then .agg #[.slice g9 (outS l G).length c9, .func (.func 91) #[] #[]] else if zd = 30 then .agg #[.slice ag G.length cg, .func (.func 91) #[] #[]] else if zd = 29 then .agg #[.slice ao l.length cap, .func (.func 91) #[] #[]] else zS zd, g9, c9, by simp [hb4, hb5], by kernel_rfl, ⟨hF.1, hF.2.1, hF.2.2.1, hF.2.2.2.1, fun _ => rfl, fun _ => rfl, fun _ => rfl, hF.2.2.2.2.2.2.2.1, hF.2.2.2.2.2.2.2.2⟩, ⟨hW.1.trans (Only.of hb), (hb.block _ (heap_lt hC9)).trans hC9, fun _ => hown.mono hW.1.size, fun _ => ⟨rfl, rfl⟩, fun _ => rfl⟩⟩
     refine StepsI.cons rfl ?_ ?_
     ·rintro L zA va ⟨zB, zS, g, c, rfl, rfl, hF, hW⟩ hL hm K hK
      have hb7 : zB 7 = false := by simpa using hL
      have hb0 : zB 0 = true := mt 0 hm (by kernel_rfl)
      have e0 : zS 25 = .pointer (some ⟨Xn, 0, none⟩) := hF.1 hb0
      clear hL hm
      simp only [pE]
      simp only [e0]
      have HWz := mkHid hW
      clear hW
      go_simp
      have hW := HWz.out
      clear HWz
      exact hK.out _ _ ⟨fun zj => if zj = 0 then true else if zj = 7 then true else zB zj, fun zd => if zd = 32 then .pointer (some ⟨Xn, 0, none⟩) else if zd = 25 then .pointer (some ⟨Xn, 0, none⟩) else zS zd, g, c, by simp [hb0], by kernel_rfl, ⟨fun _ => rfl, hF.2.1, hF.2.2.1, hF.2.2.2.1, hF.2.2.2.2.1, hF.2.2.2.2.2.1, hF.2.2.2.2.2.2.1, fun _ => rfl, hF.2.2.2.2.2.2.2.2⟩, hW⟩
     refine StepsI.cons rfl ?_ ?_
     ·rintro L zA va ⟨zB, zS, g, c, rfl, rfl, hF, hW⟩ hL hm K hK
      have hb8 : zB 8 = false := by simpa using hL
      have hb7 : zB 7 = true := mt 7 hm (by kernel_rfl)
      have e7 : zS 32 = .pointer (some ⟨Xn, 0, none⟩) := hF.2.2.2.2.2.2.2.1 hb7
      clear hL hm
      simp only [pE]
      simp only [e7]
      have HWz := mkHid hW
      clear hW
      go_simp
      have hW := HWz.out
      clear HWz
      exact hK.out _ _ ⟨fun zj => if zj = 7 then true else if zj = 8 then true else zB zj, fun zd => if zd = 33 then .pointer (some ⟨Xn, 0, none⟩) else if zd = 32 then .pointer (some ⟨Xn, 0, none⟩) else zS zd, g, c, by simp [hb7], by kernel_rfl, ⟨hF.1, hF.2.1, hF.2.2.1, hF.2.2.2.1, hF.2.2.2.2.1, hF.2.2.2.2.2.1, hF.2.2.2.2.2.2.1, fun _ => rfl, fun _ => rfl⟩, hW⟩
     refine StepsI.cons rfl ?_ ?_
     ·rintro L zA va ⟨zB, zS, g, c, rfl, rfl, hF, hW⟩ hL hm K hK
      have hb9 : zB 9 = false := by simpa using hL
      have hb6 : zB 6 = true := mt 6 hm (by kernel_rfl)
      have hb8 : zB 8 = true := mt 8 hm (by kernel_rfl)
      have e6 : zS 31 = .agg #[.slice g (outS l G).length c, .func (.func 91) #[] #[]] := hF.2.2.2.2.2.2.1 hb6
      have e8 : zS 33 = .pointer (some ⟨Xn, 0, none⟩) := hF.2.2.2.2.2.2.2.2 hb8
      clear hL hm
      rw [hb9] at hW
      rw [hb6] at hW
      simp only [pE]
      simp only [e6, e8]
      have hC := hW.2.1
      obtain ⟨c0, c1, _, _, _, _, _, f0, f1, _, _, _, _, _⟩ := cel_of hC
      have HWz := mkHid hW
      clear hW
      go_simp
      have hW := HWz.out
      clear HWz
      exact hK.out _ _ ⟨fun zj => if zj = 8 then true else if zj = 6 then true else if zj = 9 then true else zB zj, fun zd => if zd = 33 then .pointer (some ⟨Xn, 0, none⟩) else if zd = 31 then .agg #[.slice g (outS l G).length c, .func (.func 91) #[] #[]] else zS zd, g, c, by simp [hb6, hb8], by kernel_rfl, ⟨hF.1, hF.2.1, hF.2.2.1, hF.2.2.2.1, hF.2.2.2.2.1, hF.2.2.2.2.2.1, fun _ => rfl, hF.2.2.2.2.2.2.2.1, fun _ => rfl⟩, ⟨(hW.1.trans (Only.set _ _ _ _)).trans (Only.set _ _ _ _), by rw [heap_set_self (heap_set_self hW.2.1 _ _)]; rfl, fun _ => own_only (own_only (hW.2.2.1 rfl) ⟨_, hW.2.1⟩ (Only.set _ _ _ _)) ⟨_, heap_set_self hW.2.1 _ _⟩ (Only.set _ _ _ _), hW.2.2.2.1, fun _ => rfl⟩⟩
     exact StepsI.nil (by kernel_rfl)
    ·rintro L zA va ⟨zB, zS, g, c, rfl, rfl, hF, hW⟩ hr
     have hu := all_up (by kernel_rfl) (N := 10) (by kernel_rfl) hr
     have hb0 : zB 0 = true := by simpa using hu 0 (by decide)
     have hb1 : zB 1 = true := by simpa using hu 1 (by decide)
     have hb2 : zB 2 = true := by simpa using hu 2 (by decide)
     have hb3 : zB 3 = true := by simpa using hu 3 (by decide)
     have hb4 : zB 4 = true := by simpa using hu 4 (by decide)
     have hb5 : zB 5 = true := by simpa using hu 5 (by decide)
     have hb6 : zB 6 = true := by simpa using hu 6 (by decide)
     have hb7 : zB 7 = true := by simpa using hu 7 (by decide)
     have hb8 : zB 8 = true := by simpa using hu 8 (by decide)
     have hb9 : zB 9 = true := by simpa using hu 9 (by decide)
     have e0 : zS 25 = .pointer (some ⟨Xn, 0, none⟩) := hF.1 hb0
     have e1 : zS 26 = .pointer (some ⟨Xn, 0, none⟩) := hF.2.1 hb1
     have e2 : zS 27 = .pointer (some ⟨Xn, 0, none⟩) := hF.2.2.1 hb2
     have e3 : zS 28 = .pointer (some ⟨Xn, 0, none⟩) := hF.2.2.2.1 hb3
     have e4 : zS 29 = .agg #[.slice ao l.length cap, .func (.func 91) #[] #[]] := hF.2.2.2.2.1 hb4
     have e5 : zS 30 = .agg #[.slice ag G.length cg, .func (.func 91) #[] #[]] := hF.2.2.2.2.2.1 hb5
     have e6 : zS 31 = .agg #[.slice g (outS l G).length c, .func (.func 91) #[] #[]] := hF.2.2.2.2.2.2.1 hb6
     have e7 : zS 32 = .pointer (some ⟨Xn, 0, none⟩) := hF.2.2.2.2.2.2.2.1 hb7
     have e8 : zS 33 = .pointer (some ⟨Xn, 0, none⟩) := hF.2.2.2.2.2.2.2.2 hb8
     rw [hb4] at hW
     rw [hb5] at hW
     rw [hb6] at hW
     rw [hb9] at hW
     clear hu hr hF
     simp only [pE]
     simp only [e0, e1, e2, e3, e4, e5, e6, e7, e8]
     clear e0 e1 e2 e3 e4 e5 e6 e7 e8
     clear hb0 hb1 hb2 hb3 hb4 hb5 hb6 hb7 hb8 hb9
     clear zB zS
     have hO := hW.1
     have hH := hW.2.1
     have hOW := hW.2.2.1 rfl
     clear hW
     simp only [sel] at hH
     have HD : Hid (Ch va base P1 (some ⟨X, 0, none⟩) (some ⟨Xa, 0, none⟩) ∧ LinkO va base Xa ka (some ⟨Xn, 0, none⟩) ∧ LinkO va base Xn (filL G kn) pp ∧ Ch va base R pp none) := mkHid (by
      refine ⟨HP.out.kept hO ⟨_, hX0⟩ ?_, HA.out.kept hO HNE.out ⟨_, hX0⟩, (by rw [HKN.out]; exact ⟨⟨g, c, hH, hOW.mono HDR.out.bs⟩, HNL.out⟩), HRR.out.kept hO ⟨_, hX0⟩ ?_⟩
      ·intro x hx e; exact (nd_parts (L := P1 ++ [(Xa, ka)]) (R := R) (x := (Xn, kn)) (by simpa using HDR.out.nd)).1 x (by simp [hx]) e
      ·intro x hx e; exact (nd_parts (L := P1 ++ [(Xa, ka)]) (R := R) (x := (Xn, kn)) (by simpa using HDR.out.nd)).2 x hx e)
     have HBE : Hid (BK base w va) := mkHid (BK.only HDR.out.bel hO HDR.out.bs HNL.out ⟨_, hX0⟩)
     have HRD1 : Hid (RowsD va ((P1 ++ (Xa, ka) :: (Xn, filL G kn) :: R).map Prod.fst)) := mkHid (by
      have h := rows_upd (k := kn) (k' := filL G kn) (P := P1 ++ [(Xa, ka)]) (R := R) hO (Ch.app HP.out ⟨rfl, _, HA.out, rfl⟩) HRR.out (by simpa using HDR.out.nd) (by simpa using HDR.out.rd) (fun b hb => by rw [rowB_of hH] at hb; exact (hOW.lt hb).1)
      simpa using h)
     have HQ1 := mkHid (q_only hO HDR.out.q ⟨_, hX0⟩)
     have HG1 := mkHid (own_only HDR.out.og ⟨_, hX0⟩ hO)
     have HZ1 : Hid (base ≤ va.heap.size) := mkHid (Nat.le_trans HDR.out.bs hO.size)
     obtain ⟨c0, c1, _, _, _, _, _, _, _, _, _, _, _, _⟩ := cel_of hH
     clear hO hH hOW hX0 hat hag hgone
     go_wp2_with fail
     refine (isEmpty_any (outS l G) g c _).mono ?_
     rintro e w2 ⟨hb, r, rfl, hr⟩
     have HR := mkHid hr
     have HBX := mkHid hb
     clear hb hr c0 c1
     obtain ⟨hP2, hA2, hN2, hR2⟩ : Ch w2 base P1 (some ⟨X, 0, none⟩) (some ⟨Xa, 0, none⟩) ∧ LinkO w2 base Xa ka (some ⟨Xn, 0, none⟩) ∧ LinkO w2 base Xn (filL G kn) pp ∧ Ch w2 base R pp none := ⟨HD.out.1.below HBX.out, HD.out.2.1.below HBX.out, HD.out.2.2.1.below HBX.out, HD.out.2.2.2.below HBX.out⟩
     have HP2 := mkHid hP2
     have HA2 := mkHid hA2
     have HN2 := mkHid hN2
     have HR2 := mkHid hR2
     have HBE2 : Hid (BK base w w2) := mkHid (HBE.out.step HBX.out HZ1.out)
     have HRD2 : Hid (RowsD w2 ((P1 ++ (Xa, ka) :: (Xn, filL G kn) :: R).map Prod.fst)) := mkHid (Ch.rows_below (Ch.app HD.out.1 ⟨rfl, _, HD.out.2.1, rfl, _, HD.out.2.2.1, HD.out.2.2.2⟩) HRD1.out HBX.out)
     have HQ2 := mkHid ((HBX.out.block Q (heap_lt HQ1.out)).trans HQ1.out)
     have HG2 := mkHid (HG1.out.below HBX.out)
     have HZ2 : Hid (base ≤ w2.heap.size) := mkHid (Nat.le_trans HZ1.out HBX.out.size)
     clear hP2 hA2 hN2 hR2 HD HBE HQ1 HG1 HZ1 HBX HRD1
     cases hrb : r
     ·have HNE2 : Hid (outS l G ≠ []) := mkHid fun h => by have := HR.out.2 h; rw [hrb] at this; cases this
      subst hrb
      have HF : Hid (DrI w w2 base Q X gb ag cg G F (P1 ++ [(Xa, ka)]) Xn (filL G kn) R) := mkHid (by
       refine ⟨Ch.app (Ch.app HP2.out ⟨rfl, _, HA2.out, rfl⟩) ⟨rfl, pp, HN2.out, HR2.out⟩, nd_same (k := kn) (by simpa using HDR.out.nd), ?_, HBE2.out, by simpa using HRD2.out, HZ2.out, HQ2.out, HG2.out, fun x hx => HDR.out.len x (List.mem_cons_of_mem _ hx)⟩
       have h := HDR.out.eq
       rw [List.map_cons, dropK, if_neg (show (filL G kn).b ≠ [] by rw [HKN.out]; exact HNE2.out)] at h
       rw [← h]
       simp)
      go_wp2
      go_roundg R.length
      case measure => exact hgR
      case rel => exact ⟨P1 ++ [(Xa, ka)], Xn, filL G kn, R, rfl, Nat.le_refl _, HF.out⟩
     ·have HE2 : Hid (outS l G = []) := mkHid (HR.out.1 hrb)
      subst hrb
      obtain ⟨a0, cp0, hX0, hw0⟩ := HA2.out.mem
      obtain ⟨a1, cp1, hY0, _⟩ := HN2.out.mem
      have HOA := mkHid hw0
      have hnext : ∀ v, Only Xa w2 v → Cel v Xn (.slice a1 (filL G kn).b.length cp1) kn.v kn.m pp := fun v h => cel_of ((h.block Xn (heap_lt hY0) (fun e => HNE.out (Option.some.inj e).symm)).trans hY0)
      obtain ⟨s0, hs0⟩ : ∃ z, Value.slice a0 ka.b.length cp0 = z := ⟨_, rfl⟩
      obtain ⟨vv, hvv⟩ : ∃ z, ka.v = z := ⟨_, rfl⟩
      obtain ⟨vn, hvn⟩ : ∃ z, kn.v = z := ⟨_, rfl⟩
      obtain ⟨mn, hmn⟩ : ∃ z, kn.m = z := ⟨_, rfl⟩
      obtain ⟨vj, hvj⟩ : ∃ z, joinV vv.1 vv.2.1 vv.2.2 vn.1 vn.2.1 vn.2.2 = z := ⟨_, rfl⟩
      have HVJ := mkHid hvj
      rw [hs0, hvv] at hX0
      rw [hvn, hmn] at hnext
      have HX2 : Hid (w2.heap[Xa]? = some (.cells (lkC s0 vv ka.m (some ⟨Xn, 0, none⟩)) 109 (0, 0)) ∧ True ∧ True ∧ True) := mkHid ⟨hX0, trivial, trivial, trivial⟩
      have HDL := mkHid (show s0 = Value.slice a0 ka.b.length cp0 ∧ ka.v = vv ∧ kn.v = vn ∧ kn.m = mn from ⟨hs0.symm, hvv, hvn, hmn⟩)
      clear hs0 hvv hvn hmn hvj hw0 hY0
      have HTT : Hid (∀ (v : World) (mz : Bool), Only Xa w2 v → v.heap[Xa]? = some (.cells (lkC s0 vj mz pp) 109 (0, 0)) → mz = (ka.m && mn) → DrI w v base Q X gb ag cg G F P1 Xa ⟨ka.b, jv ka.v kn.v, ka.m && kn.m⟩ R) := mkHid fun v mz hO hH hm => by
       obtain ⟨d0, d1, d2, d3⟩ := HDL.out
       have hT := HA2.out.typ
       have hj : jv ka.v kn.v = vj := by rw [← HVJ.out, d1, d2]; rfl
       refine ⟨Ch.upd hO hT HP2.out ⟨⟨a0, cp0, ?_, own_only HOA.out hT hO⟩, HA2.out.lo⟩ HR2.out (nd_parts HDR.out.nd).1 (fun x hx => (nd_parts HDR.out.nd).2 x (List.mem_cons_of_mem _ hx)), nd_drop HDR.out.nd, ?_, BK.only HBE2.out hO HZ2.out HA2.out.lo hT, rows_drop (k := ka) (y := (Xn, filL G kn)) hO HP2.out HR2.out (nd_same2 HDR.out.nd) HRD2.out (by obtain ⟨e1, e2, e3, e4⟩ := HX2.out; rw [rowB_of hH, rowB_of e1]), Nat.le_trans HZ2.out hO.size, q_only hO HQ2.out hT, own_only HG2.out hT hO, fun x hx => HDR.out.len x (List.mem_cons_of_mem _ hx)⟩
       ·rw [hH, hj, d3, ← hm, ← d0]
       ·have h := HDR.out.eq
        rw [List.map_cons, dropK, if_pos (show (filL G kn).b = [] by rw [HKN.out]; exact HE2.out)] at h
        exact h
      clear HP2 HA2 HR2 HN2 HBE2 HQ2 HG2 HZ2 HOA HDL HX2 HRD2
      cases hmm : ka.m
      ·rw [hmm] at hX0 HTT
       clear hmm
       go_wp2_with fail
       refine wp_region_inv2 (fun zA0 L zA va => ∃ (zB : Nat → Bool) (zS : Nat → Value), L = #[zB 0, zB 1, zB 2, zB 3, zB 4, zB 5, zB 6, zB 7, zB 8, zB 9, zB 10, zB 11, zB 12, zB 13, zB 14, zB 15, zB 16, zB 17, zB 18, zB 19, zB 20, zB 21, zB 22, zB 23, zB 24, zB 25, zB 26, zB 27, zB 28, zB 29, zB 30, zB 31, zB 32, zB 33, zB 34] ∧ zA = puts zA0 [(39, zS 39), (40, zS 40), (41, zS 41), (42, zS 42), (43, zS 43), (44, zS 44), (45, zS 45), (46, zS 46), (47, zS 47), (48, zS 48), (49, zS 49), (50, zS 50), (51, zS 51), (52, zS 52), (53, zS 53), (54, zS 54), (55, zS 55), (56, zS 56), (57, zS 57), (58, zS 58), (59, zS 59), (60, zS 60), (61, zS 61), (62, zS 62), (63, zS 63), (64, zS 64), (65, zS 65), (66, zS 66), (67, zS 67), (68, zS 68), (69, zS 69), (70, zS 70)] ∧ ((zB 0 = true → zS 39 = .pointer (some ⟨Xa, 0, none⟩)) ∧ (zB 1 = true → zS 40 = .pointer (some ⟨Xa, 0, none⟩)) ∧ (zB 2 = true → zS 41 = .pointer (some ⟨Xa, 0, none⟩)) ∧ (zB 3 = true → zS 42 = .pointer (some ⟨Xa, 0, none⟩)) ∧ (zB 4 = true → zS 43 = .pointer (some ⟨Xa, 0, none⟩)) ∧ (zB 5 = true → zS 44 = .pointer (some ⟨Xa, 2, none⟩)) ∧ (zB 6 = true → zS 45 = .agg #[.int .i64 vv.1, .int .i64 vv.2.1, .bool vv.2.2]) ∧ (zB 7 = true → zS 46 = .pointer (some ⟨Xn, 0, none⟩)) ∧ (zB 8 = true → zS 47 = .pointer (some ⟨Xn, 0, none⟩)) ∧ (zB 9 = true → zS 48 = .pointer (some ⟨Xn, 2, none⟩)) ∧ (zB 10 = true → zS 49 = .agg #[.int .i64 vn.1, .int .i64 vn.2.1, .bool vn.2.2]) ∧ (zB 11 = true → zS 50 = .agg #[.int .i64 vj.1, .int .i64 vj.2.1, .bool vj.2.2]) ∧ (zB 12 = true → zS 51 = .pointer (some ⟨Xa, 0, none⟩)) ∧ (zB 13 = true → zS 52 = .pointer (some ⟨Xa, 0, none⟩)) ∧ (zB 14 = true → zS 53 = .pointer (some ⟨Xa, 5, none⟩)) ∧ (zB 15 = true → zS 54 = .bool false) ∧ (zB 16 = true → zS 55 = .bool false) ∧ (zB 17 = true → zS 56 = undef) ∧ (zB 18 = true → zS 57 = undef) ∧ (zB 19 = true → zS 58 = undef) ∧ (zB 20 = true → zS 59 = undef) ∧ (zB 21 = true → zS 60 = .bool false) ∧ (zB 22 = true → zS 61 = .pointer (some ⟨Xn, 0, none⟩)) ∧ (zB 23 = true → zS 62 = .pointer (some ⟨Xn, 0, none⟩)) ∧ (zB 24 = true → zS 63 = .pointer (some ⟨Xn, 6, none⟩)) ∧ (zB 25 = true → zS 64 = .pointer pp) ∧ (zB 26 = true → zS 65 = .pointer (some ⟨Xa, 0, none⟩)) ∧ (zB 27 = true → zS 66 = .pointer (some ⟨Xa, 2, none⟩)) ∧ (zB 29 = true → zS 67 = .pointer (some ⟨Xa, 0, none⟩)) ∧ (zB 30 = true → zS 68 = .pointer (some ⟨Xa, 5, none⟩)) ∧ (zB 32 = true → zS 69 = .pointer (some ⟨Xa, 0, none⟩)) ∧ (zB 33 = true → zS 70 = .pointer (some ⟨Xa, 6, none⟩))) ∧ (Only Xa w2 va) ∧ (va.heap[Xa]? = some (.cells (lkC s0 (sel (zB 28) vj vv) (sel (zB 31) false false) (sel (zB 34) pp (some ⟨Xn, 0, none⟩))) 109 (0, 0))) ∧ ((zB 28) = true → (zB 6) = true ∧ (zB 15) = true) ∧ ((zB 31) = true → (zB 6) = true ∧ (zB 15) = true) ∧ ((zB 34) = true → (zB 6) = true ∧ (zB 15) = true)) (by kernel_rfl) ?_ ?_ ?_
       ·exact ⟨fun _ => false, fun zd => if zd = 70 then u70 else if zd = 69 then u69 else if zd = 68 then u68 else if zd = 67 then u67 else if zd = 66 then u66 else if zd = 65 then u65 else if zd = 64 then u64 else if zd = 63 then u63 else if zd = 62 then u62 else if zd = 61 then u61 else if zd = 60 then u60 else if zd = 59 then u59 else if zd = 58 then u58 else if zd = 57 then u57 else if zd = 56 then u56 else if zd = 55 then u55 else if zd = 54 then u54 else if zd = 53 then u53 else if zd = 52 then u52 else if zd = 51 then u51 else if zd = 50 then u50 else if zd = 49 then u49 else if zd = 48 then u48 else if zd = 47 then u47 else if zd = 46 then u46 else if zd = 45 then u45 else if zd = 44 then u44 else if zd = 43 then u43 else if zd = 42 then u42 else if zd = 41 then u41 else if zd = 40 then u40 else if zd = 39 then u39 else undef, rfl, by kernel_rfl, ⟨fun e => ft e, fun e => ft e, fun e => ft e, fun e => ft e, fun e => ft e, fun e => ft e, fun e => ft e, fun e => ft e, fun e => ft e, fun e => ft e, fun e => ft e, fun e => ft e, fun e => ft e, fun e => ft e, fun e => ft e, fun e => ft e, fun e => ft e, fun e => ft e, fun e => ft e, fun e => ft e, fun e => ft e, fun e => ft e, fun e => ft e, fun e => ft e, fun e => ft e, fun e => ft e, fun e => ft e, fun e => ft e, fun e => ft e, fun e => ft e, fun e => ft e, fun e => ft e⟩, ⟨(Only.of (Below.refl _ _).drew), hX0, fun e => ft e, fun e => ft e, fun e => ft e⟩⟩
       ·refine StepsI.cons rfl ?_ ?_
        ·rintro L zA va ⟨zB, zS, rfl, rfl, hF, hW⟩ hL hm K hK
         have hb0 : zB 0 = false := by simpa using hL
         clear hL hm
         simp only [pE]
         have HWz := mkHid hW
         clear hW
         go_simp
         have hW := HWz.out
         clear HWz
         exact hK.out _ _ ⟨fun zj => if zj = 0 then true else zB zj, fun zd => if zd = 39 then .pointer (some ⟨Xa, 0, none⟩) else zS zd, rfl, by kernel_rfl, ⟨fun _ => rfl, hF.2.1, hF.2.2.1, hF.2.2.2.1, hF.2.2.2.2.1, hF.2.2.2.2.2.1, hF.2.2.2.2.2.2.1, hF.2.2.2.2.2.2.2.1, hF.2.2.2.2.2.2.2.2.1, hF.2.2.2.2.2.2.2.2.2.1, hF.2.2.2.2.2.2.2.2.2.2.1, hF.2.2.2.2.2.2.2.2.2.2.2.1, hF.2.2.2.2.2.2.2.2.2.2.2.2.1, hF.2.2.2.2.2.2.2.2.2.2.2.2.2.1, hF.2.2.2.2.2.2.2.2.2.2.2.2.2.2.1, hF.2.2.2.2.2.2.2.2.2.2.2.2.2.2.2.1, hF.2.2.2.2.2.2.2.2.2.2.2.2.2.2.2.2.1, hF.2.2.2.2.2.2.2.2.2.2.2.2.2.2.2.2.2.1, hF.2.2.2.2.2.2.2.2.2.2.2.2.2.2.2.2.2.2.1, hF.2.2.2.2.2.2.2.2.2.2.2.2.2.2.2.2.2.2.2.1, hF.2.2.2.2.2.2.2.2.2.2.2.2.2.2.2.2.2.2.2.2.1, hF.2.2.2.2.2.2.2.2.2.2.2.2.2.2.2.2.2.2.2.2.2.1, hF.2.2.2.2.2.2.2.2.2.2.2.2.2.2.2.2.2.2.2.2.2.2.1, hF.2.2.2.2.2.2.2.2.2.2.2.2.2.2.2.2.2.2.2.2.2.2.2.1, hF.2.2.2.2.2.2.2.2.2.2.2.2.2.2.2.2.2.2.2.2.2.2.2.2.1, hF.2.2.2.2.2.2.2.2.2.2.2.2.2.2.2.2.2.2.2.2.2.2.2.2.2.1, hF.2.2.2.2.2.2.2.2.2.2.2.2.2.2.2.2.2.2.2.2.2.2.2.2.2.2.1, hF.2.2.2.2.2.2.2.2.2.2.2.2.2.2.2.2.2.2.2.2.2.2.2.2.2.2.2.1, hF.2.2.2.2.2.2.2.2.2.2.2.2.2.2.2.2.2.2.2.2.2.2.2.2.2.2.2.2.1, hF.2.2.2.2.2.2.2.2.2.2.2.2.2.2.2.2.2.2.2.2.2.2.2.2.2.2.2.2.2.1, hF.2.2.2.2.2.2.2.2.2.2.2.2.2.2.2.2.2.2.2.2.2.2.2.2.2.2.2.2.2.2.1, hF.2.2.2.2.2.2.2.2.2.2.2.2.2.2.2.2.2.2.2.2.2.2.2.2.2.2.2.2.2.2.2⟩, hW⟩
        refine StepsI.cons rfl ?_ ?_
        ·rintro L zA va ⟨zB, zS, rfl, rfl, hF, hW⟩ hL hm K hK
         have hb1 : zB 1 = false := by simpa using hL
         clear hL hm
         simp only [pE]
         have HWz := mkHid hW
         clear hW
         go_simp
         have hW := HWz.out
         clear HWz
         exact hK.out _ _ ⟨fun zj => if zj = 1 then true else zB zj, fun zd => if zd = 40 then .pointer (some ⟨Xa, 0, none⟩) else zS zd, rfl, by kernel_rfl, ⟨hF.1, fun _ => rfl, hF.2.2.1, hF.2.2.2.1, hF.2.2.2.2.1, hF.2.2.2.2.2.1, hF.2.2.2.2.2.2.1, hF.2.2.2.2.2.2.2.1, hF.2.2.2.2.2.2.2.2.1, hF.2.2.2.2.2.2.2.2.2.1, hF.2.2.2.2.2.2.2.2.2.2.1, hF.2.2.2.2.2.2.2.2.2.2.2.1, hF.2.2.2.2.2.2.2.2.2.2.2.2.1, hF.2.2.2.2.2.2.2.2.2.2.2.2.2.1, hF.2.2.2.2.2.2.2.2.2.2.2.2.2.2.1, hF.2.2.2.2.2.2.2.2.2.2.2.2.2.2.2.1, hF.2.2.2.2.2.2.2.2.2.2.2.2.2.2.2.2.1, hF.2.2.2.2.2.2.2.2.2.2.2.2.2.2.2.2.2.1, hF.2.2.2.2.2.2.2.2.2.2.2.2.2.2.2.2.2.2.1, hF.2.2.2.2.2.2.2.2.2.2.2.2.2.2.2.2.2.2.2.1, hF.2.2.2.2.2.2.2.2.2.2.2.2.2.2.2.2.2.2.2.2.1, hF.2.2.2.2.2.2.2.2.2.2.2.2.2.2.2.2.2.2.2.2.2.1, hF.2.2.2.2.2.2.2.2.2.2.2.2.2.2.2.2.2.2.2.2.2.2.1, hF.2.2.2.2.2.2.2.2.2.2.2.2.2.2.2.2.2.2.2.2.2.2.2.1, hF.2.2.2.2.2.2.2.2.2.2.2.2.2.2.2.2.2.2.2.2.2.2.2.2.1, hF.2.2.2.2.2.2.2.2.2.2.2.2.2.2.2.2.2.2.2.2.2.2.2.2.2.1, hF.2.2.2.2.2.2.2.2.2.2.2.2.2.2.2.2.2.2.2.2.2.2.2.2.2.2.1, hF.2.2.2.2.2.2.2.2.2.2.2.2.2.2.2.2.2.2.2.2.2.2.2.2.2.2.2.1, hF.2.2.2.2.2.2.2.2.2.2.2.2.2.2.2.2.2.2.2.2.2.2.2.2.2.2.2.2.1, hF.2.2.2.2.2.2.2.2.2.2.2.2.2.2.2.2.2.2.2.2.2.2.2.2.2.2.2.2.2.1, hF.2.2.2.2.2.2.2.2.2.2.2.2.2.2.2.2.2.2.2.2.2.2.2.2.2.2.2.2.2.2.1, hF.2.2.2.2.2.2.2.2.2.2.2.2.2.2.2.2.2.2.2.2.2.2.2.2.2.2.2.2.2.2.2⟩, hW⟩
        refine StepsI.cons rfl ?_ ?_
        ·rintro L zA va ⟨zB, zS, rfl, rfl, hF, hW⟩ hL hm K hK
         have hb2 : zB 2 = false := by simpa using hL
         clear hL hm
         simp only [pE]
         have HWz := mkHid hW
         clear hW
         go_simp
         have hW := HWz.out
         clear HWz
         exact hK.out _ _ ⟨fun zj => if zj = 2 then true else zB zj, fun zd => if zd = 41 then .pointer (some ⟨Xa, 0, none⟩) else zS zd, rfl, by kernel_rfl, ⟨hF.1, hF.2.1, fun _ => rfl, hF.2.2.2.1, hF.2.2.2.2.1, hF.2.2.2.2.2.1, hF.2.2.2.2.2.2.1, hF.2.2.2.2.2.2.2.1, hF.2.2.2.2.2.2.2.2.1, hF.2.2.2.2.2.2.2.2.2.1, hF.2.2.2.2.2.2.2.2.2.2.1, hF.2.2.2.2.2.2.2.2.2.2.2.1, hF.2.2.2.2.2.2.2.2.2.2.2.2.1, hF.2.2.2.2.2.2.2.2.2.2.2.2.2.1, hF.2.2.2.2.2.2.2.2.2.2.2.2.2.2.1, hF.2.2.2.2.2.2.2.2.2.2.2.2.2.2.2.1, hF.2.2.2.2.2.2.2.2.2.2.2.2.2.2.2.2.1, hF.2.2.2.2.2.2.2.2.2.2.2.2.2.2.2.2.2.1, hF.2.2.2.2.2.2.2.2.2.2.2.2.2.2.2.2.2.2.1, hF.2.2.2.2.2.2.2.2.2.2.2.2.2.2.2.2.2.2.2.1, hF.2.2.2.2.2.2.2.2.2.2.2.2.2.2.2.2.2.2.2.2.1, hF.2.2.2.2.2.2.2.2.2.2.2.2.2.2.2.2.2.2.2.2.2.1, hF.2.2.2.2.2.2.2.2.2.2.2.2.2.2.2.2.2.2.2.2.2.2.1, hF.2.2.2.2.2.2.2.2.2.2.2.2.2.2.2.2.2.2.2.2.2.2.2.1, hF.2.2.2.2.2.2.2.2.2.2.2.2.2.2.2.2.2.2.2.2.2.2.2.2.1, hF.2.2.2.2.2.2.2.2.2.2.2.2.2.2.2.2.2.2.2.2.2.2.2.2.2.1, hF.2.2.2.2.2.2.2.2.2.2.2.2.2.2.2.2.2.2.2.2.2.2.2.2.2.2.1, hF.2.2.2.2.2.2.2.2.2.2.2.2.2.2.2.2.2.2.2.2.2.2.2.2.2.2.2.1, hF.2.2.2.2.2.2.2.2.2.2.2.2.2.2.2.2.2.2.2.2.2.2.2.2.2.2.2.2.1, hF.2.2.2.2.2.2.2.2.2.2.2.2.2.2.2.2.2.2.2.2.2.2.2.2.2.2.2.2.2.1, hF.2.2.2.2.2.2.2.2.2.2.2.2.2.2.2.2.2.2.2.2.2.2.2.2.2.2.2.2.2.2.1, hF.2.2.2.2.2.2.2.2.2.2.2.2.2.2.2.2.2.2.2.2.2.2.2.2.2.2.2.2.2.2.2⟩, hW⟩
        refine StepsI.cons rfl ?_ ?_
        ·rintro L zA va ⟨zB, zS, rfl, rfl, hF, hW⟩ hL hm K hK
         have hb3 : zB 3 = false := by simpa using hL
         clear hL hm
         simp only [pE]
         have HWz := mkHid hW
         clear hW
         go_simp
         have hW := HWz.out
         clear HWz
         exact hK.out _ _ ⟨fun zj => if zj = 3 then true else zB zj, fun zd => if zd = 42 then .pointer (some ⟨Xa, 0, none⟩) else zS zd, rfl, by kernel_rfl, ⟨hF.1, hF.2.1, hF.2.2.1, fun _ => rfl, hF.2.2.2.2.1, hF.2.2.2.2.2.1, hF.2.2.2.2.2.2.1, hF.2.2.2.2.2.2.2.1, hF.2.2.2.2.2.2.2.2.1, hF.2.2.2.2.2.2.2.2.2.1, hF.2.2.2.2.2.2.2.2.2.2.1, hF.2.2.2.2.2.2.2.2.2.2.2.1, hF.2.2.2.2.2.2.2.2.2.2.2.2.1, hF.2.2.2.2.2.2.2.2.2.2.2.2.2.1, hF.2.2.2.2.2.2.2.2.2.2.2.2.2.2.1, hF.2.2.2.2.2.2.2.2.2.2.2.2.2.2.2.1, hF.2.2.2.2.2.2.2.2.2.2.2.2.2.2.2.2.1, hF.2.2.2.2.2.2.2.2.2.2.2.2.2.2.2.2.2.1, hF.2.2.2.2.2.2.2.2.2.2.2.2.2.2.2.2.2.2.1, hF.2.2.2.2.2.2.2.2.2.2.2.2.2.2.2.2.2.2.2.1, hF.2.2.2.2.2.2.2.2.2.2.2.2.2.2.2.2.2.2.2.2.1, hF.2.2.2.2.2.2.2.2.2.2.2.2.2.2.2.2.2.2.2.2.2.1, hF.2.2.2.2.2.2.2.2.2.2.2.2.2.2.2.2.2.2.2.2.2.2.1, hF.2.2.2.2.2.2.2.2.2.2.2.2.2.2.2.2.2.2.2.2.2.2.2.1, hF.2.2.2.2.2.2.2.2.2.2.2.2.2.2.2.2.2.2.2.2.2.2.2.2.1, hF.2.2.2.2.2.2.2.2.2.2.2.2.2.2.2.2.2.2.2.2.2.2.2.2.2.1, hF.2.2.2.2.2.2.2.2.2.2.2.2.2.2.2.2.2.2.2.2.2.2.2.2.2.2.1, hF.2.2.2.2.2.2.2.2.2.2.2.2.2.2.2.2.2.2.2.2.2.2.2.2.2.2.2.1, hF.2.2.2.2.2.2.2.2.2.2.2.2.2.2.2.2.2.2.2.2.2.2.2.2.2.2.2.2.1, hF.2.2.2.2.2.2.2.2.2.2.2.2.2.2.2.2.2.2.2.2.2.2.2.2.2.2.2.2.2.1, hF.2.2.2.2.2.2.2.2.2.2.2.2.2.2.2.2.2.2.2.2.2.2.2.2.2.2.2.2.2.2.1, hF.2.2.2.2.2.2.2.2.2.2.2.2.2.2.2.2.2.2.2.2.2.2.2.2.2.2.2.2.2.2.2⟩, hW⟩
        refine StepsI.cons rfl ?_ ?_
        ·rintro L zA va ⟨zB, zS, rfl, rfl, hF, hW⟩ hL hm K hK
         have hb4 : zB 4 = false := by simpa using hL
         have hb3 : zB 3 = true := mt 3 hm (by kernel_rfl)
         have e3 : zS 42 = .pointer (some ⟨Xa, 0, none⟩) := hF.2.2.2.1 hb3
         clear hL hm
         simp only [pE]
         simp only [e3]
         have HWz := mkHid hW
         clear hW
         go_simp
         have hW := HWz.out
         clear HWz
         exact hK.out _ _ ⟨fun zj => if zj = 3 then true else if zj = 4 then true else zB zj, fun zd => if zd = 43 then .pointer (some ⟨Xa, 0, none⟩) else if zd = 42 then .pointer (some ⟨Xa, 0, none⟩) else zS zd, by simp [hb3], by kernel_rfl, ⟨hF.1, hF.2.1, hF.2.2.1, fun _ => rfl, fun _ => rfl, hF.2.2.2.2.2.1, hF.2.2.2.2.2.2.1, hF.2.2.2.2.2.2.2.1, hF.2.2.2.2.2.2.2.2.1, hF.2.2.2.2.2.2.2.2.2.1, hF.2.2.2.2.2.2.2.2.2.2.1, hF.2.2.2.2.2.2.2.2.2.2.2.1, hF.2.2.2.2.2.2.2.2.2.2.2.2.1, hF.2.2.2.2.2.2.2.2.2.2.2.2.2.1, hF.2.2.2.2.2.2.2.2.2.2.2.2.2.2.1, hF.2.2.2.2.2.2.2.2.2.2.2.2.2.2.2.1, hF.2.2.2.2.2.2.2.2.2.2.2.2.2.2.2.2.1, hF.2.2.2.2.2.2.2.2.2.2.2.2.2.2.2.2.2.1, hF.2.2.2.2.2.2.2.2.2.2.2.2.2.2.2.2.2.2.1, hF.2.2.2.2.2.2.2.2.2.2.2.2.2.2.2.2.2.2.2.1, hF.2.2.2.2.2.2.2.2.2.2.2.2.2.2.2.2.2.2.2.2.1, hF.2.2.2.2.2.2.2.2.2.2.2.2.2.2.2.2.2.2.2.2.2.1, hF.2.2.2.2.2.2.2.2.2.2.2.2.2.2.2.2.2.2.2.2.2.2.1, hF.2.2.2.2.2.2.2.2.2.2.2.2.2.2.2.2.2.2.2.2.2.2.2.1, hF.2.2.2.2.2.2.2.2.2.2.2.2.2.2.2.2.2.2.2.2.2.2.2.2.1, hF.2.2.2.2.2.2.2.2.2.2.2.2.2.2.2.2.2.2.2.2.2.2.2.2.2.1, hF.2.2.2.2.2.2.2.2.2.2.2.2.2.2.2.2.2.2.2.2.2.2.2.2.2.2.1, hF.2.2.2.2.2.2.2.2.2.2.2.2.2.2.2.2.2.2.2.2.2.2.2.2.2.2.2.1, hF.2.2.2.2.2.2.2.2.2.2.2.2.2.2.2.2.2.2.2.2.2.2.2.2.2.2.2.2.1, hF.2.2.2.2.2.2.2.2.2.2.2.2.2.2.2.2.2.2.2.2.2.2.2.2.2.2.2.2.2.1, hF.2.2.2.2.2.2.2.2.2.2.2.2.2.2.2.2.2.2.2.2.2.2.2.2.2.2.2.2.2.2.1, hF.2.2.2.2.2.2.2.2.2.2.2.2.2.2.2.2.2.2.2.2.2.2.2.2.2.2.2.2.2.2.2⟩, hW⟩
        refine StepsI.cons rfl ?_ ?_
        ·rintro L zA va ⟨zB, zS, rfl, rfl, hF, hW⟩ hL hm K hK
         have hb5 : zB 5 = false := by simpa using hL
         have hb4 : zB 4 = true := mt 4 hm (by kernel_rfl)
         have e4 : zS 43 = .pointer (some ⟨Xa, 0, none⟩) := hF.2.2.2.2.1 hb4
         clear hL hm
         simp only [pE]
         simp only [e4]
         have HWz := mkHid hW
         clear hW
         go_simp
         have hW := HWz.out
         clear HWz
         exact hK.out _ _ ⟨fun zj => if zj = 4 then true else if zj = 5 then true else zB zj, fun zd => if zd = 44 then .pointer (some ⟨Xa, 2, none⟩) else if zd = 43 then .pointer (some ⟨Xa, 0, none⟩) else zS zd, by simp [hb4], by kernel_rfl, ⟨hF.1, hF.2.1, hF.2.2.1, hF.2.2.2.1, fun _ => rfl, fun _ => rfl, hF.2.2.2.2.2.2.1, hF.2.2.2.2.2.2.2.1, hF.2.2.2.2.2.2.2.2.1, hF.2.2.2.2.2.2.2.2.2.1, hF.2.2.2.2.2.2.2.2.2.2.1, hF.2.2.2.2.2.2.2.2.2.2.2.1, hF.2.2.2.2.2.2.2.2.2.2.2.2.1, hF.2.2.2.2.2.2.2.2.2.2.2.2.2.1, hF.2.2.2.2.2.2.2.2.2.2.2.2.2.2.1, hF.2.2.2.2.2.2.2.2.2.2.2.2.2.2.2.1, hF.2.2.2.2.2.2.2.2.2.2.2.2.2.2.2.2.1, hF.2.2.2.2.2.2.2.2.2.2.2.2.2.2.2.2.2.1, hF.2.2.2.2.2.2.2.2.2.2.2.2.2.2.2.2.2.2.1, hF.2.2.2.2.2.2.2.2.2.2.2.2.2.2.2.2.2.2.2.1, hF.2.2.2.2.2.2.2.2.2.2.2.2.2.2.2.2.2.2.2.2.1, hF.2.2.2.2.2.2.2.2.2.2.2.2.2.2.2.2.2.2.2.2.2.1, hF.2.2.2.2.2.2.2.2.2.2.2.2.2.2.2.2.2.2.2.2.2.2.1, hF.2.2.2.2.2.2.2.2.2.2.2.2.2.2.2.2.2.2.2.2.2.2.2.1, hF.2.2.2.2.2.2.2.2.2.2.2.2.2.2.2.2.2.2.2.2.2.2.2.2.1, hF.2.2.2.2.2.2.2.2.2.2.2.2.2.2.2.2.2.2.2.2.2.2.2.2.2.1, hF.2.2.2.2.2.2.2.2.2.2.2.2.2.2.2.2.2.2.2.2.2.2.2.2.2.2.1, hF.2.2.2.2.2.2.2.2.2.2.2.2.2.2.2.2.2.2.2.2.2.2.2.2.2.2.2.1, hF.2.2.2.2.2.2.2.2.2.2.2.2.2.2.2.2.2.2.2.2.2.2.2.2.2.2.2.2.1, hF.2.2.2.2.2.2.2.2.2.2.2.2.2.2.2.2.2.2.2.2.2.2.2.2.2.2.2.2.2.1, hF.2.2.2.2.2.2.2.2.2.2.2.2.2.2.2.2.2.2.2.2.2.2.2.2.2.2.2.2.2.2.1, hF.2.2.2.2.2.2.2.2.2.2.2.2.2.2.2.2.2.2.2.2.2.2.2.2.2.2.2.2.2.2.2⟩, hW⟩
        refine StepsI.cons rfl ?_ ?_
        ·rintro L zA va ⟨zB, zS, rfl, rfl, hF, hW⟩ hL hm K hK
         have hb6 : zB 6 = false := by simpa using hL
         have hb5 : zB 5 = true := mt 5 hm (by kernel_rfl)
         have e5 : zS 44 = .pointer (some ⟨Xa, 2, none⟩) := hF.2.2.2.2.2.1 hb5
         clear hL hm
         rw [hb6] at hW
         simp only [pE]
         simp only [e5]
         have h28 : zB 28 = false := by cases e : zB 28 with | false => rfl | true => exact ft (hW.2.2.1 e).1
         have h31 : zB 31 = false := by cases e : zB 31 with | false => rfl | true => exact ft (hW.2.2.2.1 e).1
         have h34 : zB 34 = false := by cases e : zB 34 with | false => rfl | true => exact ft (hW.2.2.2.2 e).1
         have hC := hW.2.1
         rw [h28, h31, h34] at hC
         obtain ⟨_, _, c2, c3, c4, c5, _, _, _, _, _, _, _, _⟩ := cel_of hC
         simp only [sel] at c2 c3 c4 c5
         clear hC
         have HWz := mkHid hW
         clear hW
         go_simp
         have hW := HWz.out
         clear HWz
         exact hK.out _ _ ⟨fun zj => if zj = 5 then true else if zj = 6 then true else zB zj, fun zd => if zd = 45 then .agg #[.int .i64 vv.1, .int .i64 vv.2.1, .bool vv.2.2] else if zd = 44 then .pointer (some ⟨Xa, 2, none⟩) else zS zd, by simp [hb5], by kernel_rfl, ⟨hF.1, hF.2.1, hF.2.2.1, hF.2.2.2.1, hF.2.2.2.2.1, fun _ => rfl, fun _ => rfl, hF.2.2.2.2.2.2.2.1, hF.2.2.2.2.2.2.2.2.1, hF.2.2.2.2.2.2.2.2.2.1, hF.2.2.2.2.2.2.2.2.2.2.1, hF.2.2.2.2.2.2.2.2.2.2.2.1, hF.2.2.2.2.2.2.2.2.2.2.2.2.1, hF.2.2.2.2.2.2.2.2.2.2.2.2.2.1, hF.2.2.2.2.2.2.2.2.2.2.2.2.2.2.1, hF.2.2.2.2.2.2.2.2.2.2.2.2.2.2.2.1, hF.2.2.2.2.2.2.2.2.2.2.2.2.2.2.2.2.1, hF.2.2.2.2.2.2.2.2.2.2.2.2.2.2.2.2.2.1, hF.2.2.2.2.2.2.2.2.2.2.2.2.2.2.2.2.2.2.1, hF.2.2.2.2.2.2.2.2.2.2.2.2.2.2.2.2.2.2.2.1, hF.2.2.2.2.2.2.2.2.2.2.2.2.2.2.2.2.2.2.2.2.1, hF.2.2.2.2.2.2.2.2.2.2.2.2.2.2.2.2.2.2.2.2.2.1, hF.2.2.2.2.2.2.2.2.2.2.2.2.2.2.2.2.2.2.2.2.2.2.1, hF.2.2.2.2.2.2.2.2.2.2.2.2.2.2.2.2.2.2.2.2.2.2.2.1, hF.2.2.2.2.2.2.2.2.2.2.2.2.2.2.2.2.2.2.2.2.2.2.2.2.1, hF.2.2.2.2.2.2.2.2.2.2.2.2.2.2.2.2.2.2.2.2.2.2.2.2.2.1, hF.2.2.2.2.2.2.2.2.2.2.2.2.2.2.2.2.2.2.2.2.2.2.2.2.2.2.1, hF.2.2.2.2.2.2.2.2.2.2.2.2.2.2.2.2.2.2.2.2.2.2.2.2.2.2.2.1, hF.2.2.2.2.2.2.2.2.2.2.2.2.2.2.2.2.2.2.2.2.2.2.2.2.2.2.2.2.1, hF.2.2.2.2.2.2.2.2.2.2.2.2.2.2.2.2.2.2.2.2.2.2.2.2.2.2.2.2.2.1, hF.2.2.2.2.2.2.2.2.2.2.2.2.2.2.2.2.2.2.2.2.2.2.2.2.2.2.2.2.2.2.1, hF.2.2.2.2.2.2.2.2.2.2.2.2.2.2.2.2.2.2.2.2.2.2.2.2.2.2.2.2.2.2.2⟩, ⟨hW.1, hW.2.1, fun e => ft (h28.symm.trans e), fun e => ft (h31.symm.trans e), fun e => ft (h34.symm.trans e)⟩⟩
        refine StepsI.cons rfl ?_ ?_
        ·rintro L zA va ⟨zB, zS, rfl, rfl, hF, hW⟩ hL hm K hK
         have hb7 : zB 7 = false := by simpa using hL
         clear hL hm
         simp only [pE]
         have HWz := mkHid hW
         clear hW
         go_simp
         have hW := HWz.out
         clear HWz
         exact hK.out _ _ ⟨fun zj => if zj = 7 then true else zB zj, fun zd => if zd = 46 then .pointer (some ⟨Xn, 0, none⟩) else zS zd, rfl, by kernel_rfl, ⟨hF.1, hF.2.1, hF.2.2.1, hF.2.2.2.1, hF.2.2.2.2.1, hF.2.2.2.2.2.1, hF.2.2.2.2.2.2.1, fun _ => rfl, hF.2.2.2.2.2.2.2.2.1, hF.2.2.2.2.2.2.2.2.2.1, hF.2.2.2.2.2.2.2.2.2.2.1, hF.2.2.2.2.2.2.2.2.2.2.2.1, hF.2.2.2.2.2.2.2.2.2.2.2.2.1, hF.2.2.2.2.2.2.2.2.2.2.2.2.2.1, hF.2.2.2.2.2.2.2.2.2.2.2.2.2.2.1, hF.2.2.2.2.2.2.2.2.2.2.2.2.2.2.2.1, hF.2.2.2.2.2.2.2.2.2.2.2.2.2.2.2.2.1, hF.2.2.2.2.2.2.2.2.2.2.2.2.2.2.2.2.2.1, hF.2.2.2.2.2.2.2.2.2.2.2.2.2.2.2.2.2.2.1, hF.2.2.2.2.2.2.2.2.2.2.2.2.2.2.2.2.2.2.2.1, hF.2.2.2.2.2.2.2.2.2.2.2.2.2.2.2.2.2.2.2.2.1, hF.2.2.2.2.2.2.2.2.2.2.2.2.2.2.2.2.2.2.2.2.2.1, hF.2.2.2.2.2.2.2.2.2.2.2.2.2.2.2.2.2.2.2.2.2.2.1, hF.2.2.2.2.2.2.2.2.2.2.2.2.2.2.2.2.2.2.2.2.2.2.2.1, hF.2.2.2.2.2.2.2.2.2.2.2.2.2.2.2.2.2.2.2.2.2.2.2.2.1, hF.2.2.2.2.2.2.2.2.2.2.2.2.2.2.2.2.2.2.2.2.2.2.2.2.2.1, hF.2.2.2.2.2.2.2.2.2.2.2.2.2.2.2.2.2.2.2.2.2.2.2.2.2.2.1, hF.2.2.2.2.2.2.2.2.2.2.2.2.2.2.2.2.2.2.2.2.2.2.2.2.2.2.2.1, hF.2.2.2.2.2.2.2.2.2.2.2.2.2.2.2.2.2.2.2.2.2.2.2.2.2.2.2.2.1, hF.2.2.2.2.2.2.2.2.2.2.2.2.2.2.2.2.2.2.2.2.2.2.2.2.2.2.2.2.2.1, hF.2.2.2.2.2.2.2.2.2.2.2.2.2.2.2.2.2.2.2.2.2.2.2.2.2.2.2.2.2.2.1, hF.2.2.2.2.2.2.2.2.2.2.2.2.2.2.2.2.2.2.2.2.2.2.2.2.2.2.2.2.2.2.2⟩, hW⟩
        refine StepsI.cons rfl ?_ ?_
        ·rintro L zA va ⟨zB, zS, rfl, rfl, hF, hW⟩ hL hm K hK
         have hb8 : zB 8 = false := by simpa using hL
         have hb7 : zB 7 = true := mt 7 hm (by kernel_rfl)
         have e7 : zS 46 = .pointer (some ⟨Xn, 0, none⟩) := hF.2.2.2.2.2.2.2.1 hb7
         clear hL hm
         simp only [pE]
         simp only [e7]
         have HWz := mkHid hW
         clear hW
         go_simp
         have hW := HWz.out
         clear HWz
         exact hK.out _ _ ⟨fun zj => if zj = 7 then true else if zj = 8 then true else zB zj, fun zd => if zd = 47 then .pointer (some ⟨Xn, 0, none⟩) else if zd = 46 then .pointer (some ⟨Xn, 0, none⟩) else zS zd, by simp [hb7], by kernel_rfl, ⟨hF.1, hF.2.1, hF.2.2.1, hF.2.2.2.1, hF.2.2.2.2.1, hF.2.2.2.2.2.1, hF.2.2.2.2.2.2.1, fun _ => rfl, fun _ => rfl, hF.2.2.2.2.2.2.2.2.2.1, hF.2.2.2.2.2.2.2.2.2.2.1, hF.2.2.2.2.2.2.2.2.2.2.2.1, hF.2.2.2.2.2.2.2.2.2.2.2.2.1, hF.2.2.2.2.2.2.2.2.2.2.2.2.2.1, hF.2.2.2.2.2.2.2.2.2.2.2.2.2.2.1, hF.2.2.2.2.2.2.2.2.2.2.2.2.2.2.2.1, hF.2.2.2.2.2.2.2.2.2.2.2.2.2.2.2.2.1, hF.2.2.2.2.2.2.2.2.2.2.2.2.2.2.2.2.2.1, hF.2.2.2.2.2.2.2.2.2.2.2.2.2.2.2.2.2.2.1, hF.2.2.2.2.2.2.2.2.2.2.2.2.2.2.2.2.2.2.2.1, hF.2.2.2.2.2.2.2.2.2.2.2.2.2.2.2.2.2.2.2.2.1, hF.2.2.2.2.2.2.2.2.2.2.2.2.2.2.2.2.2.2.2.2.2.1, hF.2.2.2.2.2.2.2.2.2.2.2.2.2.2.2.2.2.2.2.2.2.2.1, hF.2.2.2.2.2.2.2.2.2.2.2.2.2.2.2.2.2.2.2.2.2.2.2.1, hF.2.2.2.2.2.2.2.2.2.2.2.2.2.2.2.2.2.2.2.2.2.2.2.2.1, hF.2.2.2.2.2.2.2.2.2.2.2.2.2.2.2.2.2.2.2.2.2.2.2.2.2.1, hF.2.2.2.2.2.2.2.2.2.2.2.2.2.2.2.2.2.2.2.2.2.2.2.2.2.2.1, hF.2.2.2.2.2.2.2.2.2.2.2.2.2.2.2.2.2.2.2.2.2.2.2.2.2.2.2.1, hF.2.2.2.2.2.2.2.2.2.2.2.2.2.2.2.2.2.2.2.2.2.2.2.2.2.2.2.2.1, hF.2.2.2.2.2.2.2.2.2.2.2.2.2.2.2.2.2.2.2.2.2.2.2.2.2.2.2.2.2.1, hF.2.2.2.2.2.2.2.2.2.2.2.2.2.2.2.2.2.2.2.2.2.2.2.2.2.2.2.2.2.2.1, hF.2.2.2.2.2.2.2.2.2.2.2.2.2.2.2.2.2.2.2.2.2.2.2.2.2.2.2.2.2.2.2⟩, hW⟩
        refine StepsI.cons rfl ?_ ?_
        ·rintro L zA va ⟨zB, zS, rfl, rfl, hF, hW⟩ hL hm K hK
         have hb9 : zB 9 = false := by simpa using hL
         have hb8 : zB 8 = true := mt 8 hm (by kernel_rfl)
         have e8 : zS 47 = .pointer (some ⟨Xn, 0, none⟩) := hF.2.2.2.2.2.2.2.2.1 hb8
         clear hL hm
         simp only [pE]
         simp only [e8]
         have HWz := mkHid hW
         clear hW
         go_simp
         have hW := HWz.out
         clear HWz
         exact hK.out _ _ ⟨fun zj => if zj = 8 then true else if zj = 9 then true else zB zj, fun zd => if zd = 48 then .pointer (some ⟨Xn, 2, none⟩) else if zd = 47 then .pointer (some ⟨Xn, 0, none⟩) else zS zd, by simp [hb8], by kernel_rfl, ⟨hF.1, hF.2.1, hF.2.2.1, hF.2.2.2.1, hF.2.2.2.2.1, hF.2.2.2.2.2.1, hF.2.2.2.2.2.2.1, hF.2.2.2.2.2.2.2.1, fun _ => rfl, fun _ => rfl, hF.2.2.2.2.2.2.2.2.2.2.1, hF.2.2.2.2.2.2.2.2.2.2.2.1, hF.2.2.2.2.2.2.2.2.2.2.2.2.1, hF.2.2.2.2.2.2.2.2.2.2.2.2.2.1, hF.2.2.2.2.2.2.2.2.2.2.2.2.2.2.1, hF.2.2.2.2.2.2.2.2.2.2.2.2.2.2.2.1, hF.2.2.2.2.2.2.2.2.2.2.2.2.2.2.2.2.1, hF.2.2.2.2.2.2.2.2.2.2.2.2.2.2.2.2.2.1, hF.2.2.2.2.2.2.2.2.2.2.2.2.2.2.2.2.2.2.1, hF.2.2.2.2.2.2.2.2.2.2.2.2.2.2.2.2.2.2.2.1, hF.2.2.2.2.2.2.2.2.2.2.2.2.2.2.2.2.2.2.2.2.1, hF.2.2.2.2.2.2.2.2.2.2.2.2.2.2.2.2.2.2.2.2.2.1, hF.2.2.2.2.2.2.2.2.2.2.2.2.2.2.2.2.2.2.2.2.2.2.1, hF.2.2.2.2.2.2.2.2.2.2.2.2.2.2.2.2.2.2.2.2.2.2.2.1, hF.2.2.2.2.2.2.2.2.2.2.2.2.2.2.2.2.2.2.2.2.2.2.2.2.1, hF.2.2.2.2.2.2.2.2.2.2.2.2.2.2.2.2.2.2.2.2.2.2.2.2.2.1, hF.2.2.2.2.2.2.2.2.2.2.2.2.2.2.2.2.2.2.2.2.2.2.2.2.2.2.1, hF.2.2.2.2.2.2.2.2.2.2.2.2.2.2.2.2.2.2.2.2.2.2.2.2.2.2.2.1, hF.2.2.2.2.2.2.2.2.2.2.2.2.2.2.2.2.2.2.2.2.2.2.2.2.2.2.2.2.1, hF.2.2.2.2.2.2.2.2.2.2.2.2.2.2.2.2.2.2.2.2.2.2.2.2.2.2.2.2.2.1, hF.2.2.2.2.2.2.2.2.2.2.2.2.2.2.2.2.2.2.2.2.2.2.2.2.2.2.2.2.2.2.1, hF.2.2.2.2.2.2.2.2.2.2.2.2.2.2.2.2.2.2.2.2.2.2.2.2.2.2.2.2.2.2.2⟩, hW⟩
        refine StepsI.cons rfl ?_ ?_
        ·rintro L zA va ⟨zB, zS, rfl, rfl, hF, hW⟩ hL hm K hK
         have hb10 : zB 10 = false := by simpa using hL
         have hb9 : zB 9 = true := mt 9 hm (by kernel_rfl)
         have e9 : zS 48 = .pointer (some ⟨Xn, 2, none⟩) := hF.2.2.2.2.2.2.2.2.2.1 hb9
         clear hL hm
         simp only [pE]
         simp only [e9]
         obtain ⟨_, _, n2, n3, n4, n5, n6, _, _, _, _, _, _, _⟩ := hnext va hW.1
         have HWz := mkHid hW
         clear hW
         go_simp
         have hW := HWz.out
         clear HWz
         exact hK.out _ _ ⟨fun zj => if zj = 9 then true else if zj = 10 then true else zB zj, fun zd => if zd = 49 then .agg #[.int .i64 vn.1, .int .i64 vn.2.1, .bool vn.2.2] else if zd = 48 then .pointer (some ⟨Xn, 2, none⟩) else zS zd, by simp [hb9], by kernel_rfl, ⟨hF.1, hF.2.1, hF.2.2.1, hF.2.2.2.1, hF.2.2.2.2.1, hF.2.2.2.2.2.1, hF.2.2.2.2.2.2.1, hF.2.2.2.2.2.2.2.1, hF.2.2.2.2.2.2.2.2.1, fun _ => rfl, fun _ => rfl, hF.2.2.2.2.2.2.2.2.2.2.2.1, hF.2.2.2.2.2.2.2.2.2.2.2.2.1, hF.2.2.2.2.2.2.2.2.2.2.2.2.2.1, hF.2.2.2.2.2.2.2.2.2.2.2.2.2.2.1, hF.2.2.2.2.2.2.2.2.2.2.2.2.2.2.2.1, hF.2.2.2.2.2.2.2.2.2.2.2.2.2.2.2.2.1, hF.2.2.2.2.2.2.2.2.2.2.2.2.2.2.2.2.2.1, hF.2.2.2.2.2.2.2.2.2.2.2.2.2.2.2.2.2.2.1, hF.2.2.2.2.2.2.2.2.2.2.2.2.2.2.2.2.2.2.2.1, hF.2.2.2.2.2.2.2.2.2.2.2.2.2.2.2.2.2.2.2.2.1, hF.2.2.2.2.2.2.2.2.2.2.2.2.2.2.2.2.2.2.2.2.2.1, hF.2.2.2.2.2.2.2.2.2.2.2.2.2.2.2.2.2.2.2.2.2.2.1, hF.2.2.2.2.2.2.2.2.2.2.2.2.2.2.2.2.2.2.2.2.2.2.2.1, hF.2.2.2.2.2.2.2.2.2.2.2.2.2.2.2.2.2.2.2.2.2.2.2.2.1, hF.2.2.2.2.2.2.2.2.2.2.2.2.2.2.2.2.2.2.2.2.2.2.2.2.2.1, hF.2.2.2.2.2.2.2.2.2.2.2.2.2.2.2.2.2.2.2.2.2.2.2.2.2.2.1, hF.2.2.2.2.2.2.2.2.2.2.2.2.2.2.2.2.2.2.2.2.2.2.2.2.2.2.2.1, hF.2.2.2.2.2.2.2.2.2.2.2.2.2.2.2.2.2.2.2.2.2.2.2.2.2.2.2.2.1, hF.2.2.2.2.2.2.2.2.2.2.2.2.2.2.2.2.2.2.2.2.2.2.2.2.2.2.2.2.2.1, hF.2.2.2.2.2.2.2.2.2.2.2.2.2.2.2.2.2.2.2.2.2.2.2.2.2.2.2.2.2.2.1, hF.2.2.2.2.2.2.2.2.2.2.2.2.2.2.2.2.2.2.2.2.2.2.2.2.2.2.2.2.2.2.2⟩, hW⟩
        refine StepsI.cons rfl ?_ ?_
        ·rintro L zA va ⟨zB, zS, rfl, rfl, hF, hW⟩ hL hm K hK
         have hb11 : zB 11 = false := by simpa using hL
         have hb6 : zB 6 = true := mt 6 hm (by kernel_rfl)
         have hb10 : zB 10 = true := mt 10 hm (by kernel_rfl)
         have e6 : zS 45 = .agg #[.int .i64 vv.1, .int .i64 vv.2.1, .bool vv.2.2] := hF.2.2.2.2.2.2.1 hb6
         have e10 : zS 49 = .agg #[.int .i64 vn.1, .int .i64 vn.2.1, .bool vn.2.2] := hF.2.2.2.2.2.2.2.2.2.2.1 hb10
         clear hL hm
         rw [hb6] at hW
         simp only [pE]
         simp only [e6, e10]
         have HWz := mkHid hW
         clear hW
         go_simp
         have hW := HWz.out
         clear HWz
         refine (iVjoin_any vv.1 vv.2.1 vv.2.2 vn.1 vn.2.1 vn.2.2 _).mono ?_
         rintro e va2 ⟨rfl, hb⟩
         rw [HVJ.out]
         have HWz := mkHid hW
         clear hW
         go_wp2_with fail
         have hW := HWz.out
         clear HWz
         exact hK.out _ _ ⟨fun zj => if zj = 10 then true else if zj = 6 then true else if zj = 11 then true else zB zj, fun zd => if zd = 50 then .agg #[.int .i64 vj.1, .int .i64 vj.2.1, .bool vj.2.2] else if zd = 49 then .agg #[.int .i64 vn.1, .int .i64 vn.2.1, .bool vn.2.2] else if zd = 45 then .agg #[.int .i64 vv.1, .int .i64 vv.2.1, .bool vv.2.2] else zS zd, by simp [hb6, hb10], by kernel_rfl, ⟨hF.1, hF.2.1, hF.2.2.1, hF.2.2.2.1, hF.2.2.2.2.1, hF.2.2.2.2.2.1, fun _ => rfl, hF.2.2.2.2.2.2.2.1, hF.2.2.2.2.2.2.2.2.1, hF.2.2.2.2.2.2.2.2.2.1, fun _ => rfl, fun _ => rfl, hF.2.2.2.2.2.2.2.2.2.2.2.2.1, hF.2.2.2.2.2.2.2.2.2.2.2.2.2.1, hF.2.2.2.2.2.2.2.2.2.2.2.2.2.2.1, hF.2.2.2.2.2.2.2.2.2.2.2.2.2.2.2.1, hF.2.2.2.2.2.2.2.2.2.2.2.2.2.2.2.2.1, hF.2.2.2.2.2.2.2.2.2.2.2.2.2.2.2.2.2.1, hF.2.2.2.2.2.2.2.2.2.2.2.2.2.2.2.2.2.2.1, hF.2.2.2.2.2.2.2.2.2.2.2.2.2.2.2.2.2.2.2.1, hF.2.2.2.2.2.2.2.2.2.2.2.2.2.2.2.2.2.2.2.2.1, hF.2.2.2.2.2.2.2.2.2.2.2.2.2.2.2.2.2.2.2.2.2.1, hF.2.2.2.2.2.2.2.2.2.2.2.2.2.2.2.2.2.2.2.2.2.2.1, hF.2.2.2.2.2.2.2.2.2.2.2.2.2.2.2.2.2.2.2.2.2.2.2.1, hF.2.2.2.2.2.2.2.2.2.2.2.2.2.2.2.2.2.2.2.2.2.2.2.2.1, hF.2.2.2.2.2.2.2.2.2.2.2.2.2.2.2.2.2.2.2.2.2.2.2.2.2.1, hF.2.2.2.2.2.2.2.2.2.2.2.2.2.2.2.2.2.2.2.2.2.2.2.2.2.2.1, hF.2.2.2.2.2.2.2.2.2.2.2.2.2.2.2.2.2.2.2.2.2.2.2.2.2.2.2.1, hF.2.2.2.2.2.2.2.2.2.2.2.2.2.2.2.2.2.2.2.2.2.2.2.2.2.2.2.2.1, hF.2.2.2.2.2.2.2.2.2.2.2.2.2.2.2.2.2.2.2.2.2.2.2.2.2.2.2.2.2.1, hF.2.2.2.2.2.2.2.2.2.2.2.2.2.2.2.2.2.2.2.2.2.2.2.2.2.2.2.2.2.2.1, hF.2.2.2.2.2.2.2.2.2.2.2.2.2.2.2.2.2.2.2.2.2.2.2.2.2.2.2.2.2.2.2⟩, ⟨hW.1.trans (Only.of hb), (hb.block _ (heap_lt hW.2.1)).trans hW.2.1, fun e => ⟨rfl, (hW.2.2.1 e).2⟩, fun e => ⟨rfl, (hW.2.2.2.1 e).2⟩, fun e => ⟨rfl, (hW.2.2.2.2 e).2⟩⟩⟩
        refine StepsI.cons rfl ?_ ?_
        ·rintro L zA va ⟨zB, zS, rfl, rfl, hF, hW⟩ hL hm K hK
         have hb12 : zB 12 = false := by simpa using hL
         clear hL hm
         simp only [pE]
         have HWz := mkHid hW
         clear hW
         go_simp
         have hW := HWz.out
         clear HWz
         exact hK.out _ _ ⟨fun zj => if zj = 12 then true else zB zj, fun zd => if zd = 51 then .pointer (some ⟨Xa, 0, none⟩) else zS zd, rfl, by kernel_rfl, ⟨hF.1, hF.2.1, hF.2.2.1, hF.2.2.2.1, hF.2.2.2.2.1, hF.2.2.2.2.2.1, hF.2.2.2.2.2.2.1, hF.2.2.2.2.2.2.2.1, hF.2.2.2.2.2.2.2.2.1, hF.2.2.2.2.2.2.2.2.2.1, hF.2.2.2.2.2.2.2.2.2.2.1, hF.2.2.2.2.2.2.2.2.2.2.2.1, fun _ => rfl, hF.2.2.2.2.2.2.2.2.2.2.2.2.2.1, hF.2.2.2.2.2.2.2.2.2.2.2.2.2.2.1, hF.2.2.2.2.2.2.2.2.2.2.2.2.2.2.2.1, hF.2.2.2.2.2.2.2.2.2.2.2.2.2.2.2.2.1, hF.2.2.2.2.2.2.2.2.2.2.2.2.2.2.2.2.2.1, hF.2.2.2.2.2.2.2.2.2.2.2.2.2.2.2.2.2.2.1, hF.2.2.2.2.2.2.2.2.2.2.2.2.2.2.2.2.2.2.2.1, hF.2.2.2.2.2.2.2.2.2.2.2.2.2.2.2.2.2.2.2.2.1, hF.2.2.2.2.2.2.2.2.2.2.2.2.2.2.2.2.2.2.2.2.2.1, hF.2.2.2.2.2.2.2.2.2.2.2.2.2.2.2.2.2.2.2.2.2.2.1, hF.2.2.2.2.2.2.2.2.2.2.2.2.2.2.2.2.2.2.2.2.2.2.2.1, hF.2.2.2.2.2.2.2.2.2.2.2.2.2.2.2.2.2.2.2.2.2.2.2.2.1, hF.2.2.2.2.2.2.2.2.2.2.2.2.2.2.2.2.2.2.2.2.2.2.2.2.2.1, hF.2.2.2.2.2.2.2.2.2.2.2.2.2.2.2.2.2.2.2.2.2.2.2.2.2.2.1, hF.2.2.2.2.2.2.2.2.2.2.2.2.2.2.2.2.2.2.2.2.2.2.2.2.2.2.2.1, hF.2.2.2.2.2.2.2.2.2.2.2.2.2.2.2.2.2.2.2.2.2.2.2.2.2.2.2.2.1, hF.2.2.2.2.2.2.2.2.2.2.2.2.2.2.2.2.2.2.2.2.2.2.2.2.2.2.2.2.2.1, hF.2.2.2.2.2.2.2.2.2.2.2.2.2.2.2.2.2.2.2.2.2.2.2.2.2.2.2.2.2.2.1, hF.2.2.2.2.2.2.2.2.2.2.2.2.2.2.2.2.2.2.2.2.2.2.2.2.2.2.2.2.2.2.2⟩, hW⟩
        refine StepsI.cons rfl ?_ ?_
        ·rintro L zA va ⟨zB, zS, rfl, rfl, hF, hW⟩ hL hm K hK
         have hb13 : zB 13 = false := by simpa using hL
         have hb12 : zB 12 = true := mt 12 hm (by kernel_rfl)
         have e12 : zS 51 = .pointer (some ⟨Xa, 0, none⟩) := hF.2.2.2.2.2.2.2.2.2.2.2.2.1 hb12
         clear hL hm
         simp only [pE]
         simp only [e12]
         have HWz := mkHid hW
         clear hW
         go_simp
         have hW := HWz.out
         clear HWz
         exact hK.out _ _ ⟨fun zj => if zj = 12 then true else if zj = 13 then true else zB zj, fun zd => if zd = 52 then .pointer (some ⟨Xa, 0, none⟩) else if zd = 51 then .pointer (some ⟨Xa, 0, none⟩) else zS zd, by simp [hb12], by kernel_rfl, ⟨hF.1, hF.2.1, hF.2.2.1, hF.2.2.2.1, hF.2.2.2.2.1, hF.2.2.2.2.2.1, hF.2.2.2.2.2.2.1, hF.2.2.2.2.2.2.2.1, hF.2.2.2.2.2.2.2.2.1, hF.2.2.2.2.2.2.2.2.2.1, hF.2.2.2.2.2.2.2.2.2.2.1, hF.2.2.2.2.2.2.2.2.2.2.2.1, fun _ => rfl, fun _ => rfl, hF.2.2.2.2.2.2.2.2.2.2.2.2.2.2.1, hF.2.2.2.2.2.2.2.2.2.2.2.2.2.2.2.1, hF.2.2.2.2.2.2.2.2.2.2.2.2.2.2.2.2.1, hF.2.2.2.2.2.2.2.2.2.2.2.2.2.2.2.2.2.1, hF.2.2.2.2.2.2.2.2.2.2.2.2.2.2.2.2.2.2.1, hF.2.2.2.2.2.2.2.2.2.2.2.2.2.2.2.2.2.2.2.1, hF.2.2.2.2.2.2.2.2.2.2.2.2.2.2.2.2.2.2.2.2.1, hF.2.2.2.2.2.2.2.2.2.2.2.2.2.2.2.2.2.2.2.2.2.1, hF.2.2.2.2.2.2.2.2.2.2.2.2.2.2.2.2.2.2.2.2.2.2.1, hF.2.2.2.2.2.2.2.2.2.2.2.2.2.2.2.2.2.2.2.2.2.2.2.1, hF.2.2.2.2.2.2.2.2.2.2.2.2.2.2.2.2.2.2.2.2.2.2.2.2.1, hF.2.2.2.2.2.2.2.2.2.2.2.2.2.2.2.2.2.2.2.2.2.2.2.2.2.1, hF.2.2.2.2.2.2.2.2.2.2.2.2.2.2.2.2.2.2.2.2.2.2.2.2.2.2.1, hF.2.2.2.2.2.2.2.2.2.2.2.2.2.2.2.2.2.2.2.2.2.2.2.2.2.2.2.1, hF.2.2.2.2.2.2.2.2.2.2.2.2.2.2.2.2.2.2.2.2.2.2.2.2.2.2.2.2.1, hF.2.2.2.2.2.2.2.2.2.2.2.2.2.2.2.2.2.2.2.2.2.2.2.2.2.2.2.2.2.1, hF.2.2.2.2.2.2.2.2.2.2.2.2.2.2.2.2.2.2.2.2.2.2.2.2.2.2.2.2.2.2.1, hF.2.2.2.2.2.2.2.2.2.2.2.2.2.2.2.2.2.2.2.2.2.2.2.2.2.2.2.2.2.2.2⟩, hW⟩
        refine StepsI.cons rfl ?_ ?_
        ·rintro L zA va ⟨zB, zS, rfl, rfl, hF, hW⟩ hL hm K hK
         have hb14 : zB 14 = false := by simpa using hL
         have hb13 : zB 13 = true := mt 13 hm (by kernel_rfl)
         have e13 : zS 52 = .pointer (some ⟨Xa, 0, none⟩) := hF.2.2.2.2.2.2.2.2.2.2.2.2.2.1 hb13
         clear hL hm
         simp only [pE]
         simp only [e13]
         have HWz := mkHid hW
         clear hW
         go_simp
         have hW := HWz.out
         clear HWz
         exact hK.out _ _ ⟨fun zj => if zj = 13 then true else if zj = 14 then true else zB zj, fun zd => if zd = 53 then .pointer (some ⟨Xa, 5, none⟩) else if zd = 52 then .pointer (some ⟨Xa, 0, none⟩) else zS zd, by simp [hb13], by kernel_rfl, ⟨hF.1, hF.2.1, hF.2.2.1, hF.2.2.2.1, hF.2.2.2.2.1, hF.2.2.2.2.2.1, hF.2.2.2.2.2.2.1, hF.2.2.2.2.2.2.2.1, hF.2.2.2.2.2.2.2.2.1, hF.2.2.2.2.2.2.2.2.2.1, hF.2.2.2.2.2.2.2.2.2.2.1, hF.2.2.2.2.2.2.2.2.2.2.2.1, hF.2.2.2.2.2.2.2.2.2.2.2.2.1, fun _ => rfl, fun _ => rfl, hF.2.2.2.2.2.2.2.2.2.2.2.2.2.2.2.1, hF.2.2.2.2.2.2.2.2.2.2.2.2.2.2.2.2.1, hF.2.2.2.2.2.2.2.2.2.2.2.2.2.2.2.2.2.1, hF.2.2.2.2.2.2.2.2.2.2.2.2.2.2.2.2.2.2.1, hF.2.2.2.2.2.2.2.2.2.2.2.2.2.2.2.2.2.2.2.1, hF.2.2.2.2.2.2.2.2.2.2.2.2.2.2.2.2.2.2.2.2.1, hF.2.2.2.2.2.2.2.2.2.2.2.2.2.2.2.2.2.2.2.2.2.1, hF.2.2.2.2.2.2.2.2.2.2.2.2.2.2.2.2.2.2.2.2.2.2.1, hF.2.2.2.2.2.2.2.2.2.2.2.2.2.2.2.2.2.2.2.2.2.2.2.1, hF.2.2.2.2.2.2.2.2.2.2.2.2.2.2.2.2.2.2.2.2.2.2.2.2.1, hF.2.2.2.2.2.2.2.2.2.2.2.2.2.2.2.2.2.2.2.2.2.2.2.2.2.1, hF.2.2.2.2.2.2.2.2.2.2.2.2.2.2.2.2.2.2.2.2.2.2.2.2.2.2.1, hF.2.2.2.2.2.2.2.2.2.2.2.2.2.2.2.2.2.2.2.2.2.2.2.2.2.2.2.1, hF.2.2.2.2.2.2.2.2.2.2.2.2.2.2.2.2.2.2.2.2.2.2.2.2.2.2.2.2.1, hF.2.2.2.2.2.2.2.2.2.2.2.2.2.2.2.2.2.2.2.2.2.2.2.2.2.2.2.2.2.1, hF.2.2.2.2.2.2.2.2.2.2.2.2.2.2.2.2.2.2.2.2.2.2.2.2.2.2.2.2.2.2.1, hF.2.2.2.2.2.2.2.2.2.2.2.2.2.2.2.2.2.2.2.2.2.2.2.2.2.2.2.2.2.2.2⟩, hW⟩
        refine StepsI.cons rfl ?_ ?_
        ·rintro L zA va ⟨zB, zS, rfl, rfl, hF, hW⟩ hL hm K hK
         have hb15 : zB 15 = false := by simpa using hL
         have hb14 : zB 14 = true := mt 14 hm (by kernel_rfl)
         have e14 : zS 53 = .pointer (some ⟨Xa, 5, none⟩) := hF.2.2.2.2.2.2.2.2.2.2.2.2.2.2.1 hb14
         clear hL hm
         rw [hb15] at hW
         simp only [pE]
         simp only [e14]
         have h28 : zB 28 = false := by cases e : zB 28 with | false => rfl | true => exact ft (hW.2.2.1 e).2
         have h31 : zB 31 = false := by cases e : zB 31 with | false => rfl | true => exact ft (hW.2.2.2.1 e).2
         have h34 : zB 34 = false := by cases e : zB 34 with | false => rfl | true => exact ft (hW.2.2.2.2 e).2
         have hC := hW.2.1
         rw [h28, h31, h34] at hC
         obtain ⟨_, _, c2, c3, c4, c5, _, _, _, _, _, _, _, _⟩ := cel_of hC
         simp only [sel] at c2 c3 c4 c5
         clear hC
         have HWz := mkHid hW
         clear hW
         go_simp
         have hW := HWz.out
         clear HWz
         exact hK.out _ _ ⟨fun zj => if zj = 14 then true else if zj = 15 then true else zB zj, fun zd => if zd = 54 then .bool false else if zd = 53 then .pointer (some ⟨Xa, 5, none⟩) else zS zd, by simp [hb14], by kernel_rfl, ⟨hF.1, hF.2.1, hF.2.2.1, hF.2.2.2.1, hF.2.2.2.2.1, hF.2.2.2.2.2.1, hF.2.2.2.2.2.2.1, hF.2.2.2.2.2.2.2.1, hF.2.2.2.2.2.2.2.2.1, hF.2.2.2.2.2.2.2.2.2.1, hF.2.2.2.2.2.2.2.2.2.2.1, hF.2.2.2.2.2.2.2.2.2.2.2.1, hF.2.2.2.2.2.2.2.2.2.2.2.2.1, hF.2.2.2.2.2.2.2.2.2.2.2.2.2.1, fun _ => rfl, fun _ => rfl, hF.2.2.2.2.2.2.2.2.2.2.2.2.2.2.2.2.1, hF.2.2.2.2.2.2.2.2.2.2.2.2.2.2.2.2.2.1, hF.2.2.2.2.2.2.2.2.2.2.2.2.2.2.2.2.2.2.1, hF.2.2.2.2.2.2.2.2.2.2.2.2.2.2.2.2.2.2.2.1, hF.2.2.2.2.2.2.2.2.2.2.2.2.2.2.2.2.2.2.2.2.1, hF.2.2.2.2.2.2.2.2.2.2.2.2.2.2.2.2.2.2.2.2.2.1, hF.2.2.2.2.2.2.2.2.2.2.2.2.2.2.2.2.2.2.2.2.2.2.1, hF.2.2.2.2.2.2.2.2.2.2.2.2.2.2.2.2.2.2.2.2.2.2.2.1, hF.2.2.2.2.2.2.2.2.2.2.2.2.2.2.2.2.2.2.2.2.2.2.2.2.1, hF.2.2.2.2.2.2.2.2.2.2.2.2.2.2.2.2.2.2.2.2.2.2.2.2.2.1, hF.2.2.2.2.2.2.2.2.2.2.2.2.2.2.2.2.2.2.2.2.2.2.2.2.2.2.1, hF.2.2.2.2.2.2.2.2.2.2.2.2.2.2.2.2.2.2.2.2.2.2.2.2.2.2.2.1, hF.2.2.2.2.2.2.2.2.2.2.2.2.2.2.2.2.2.2.2.2.2.2.2.2.2.2.2.2.1, hF.2.2.2.2.2.2.2.2.2.2.2.2.2.2.2.2.2.2.2.2.2.2.2.2.2.2.2.2.2.1, hF.2.2.2.2.2.2.2.2.2.2.2.2.2.2.2.2.2.2.2.2.2.2.2.2.2.2.2.2.2.2.1, hF.2.2.2.2.2.2.2.2.2.2.2.2.2.2.2.2.2.2.2.2.2.2.2.2.2.2.2.2.2.2.2⟩, ⟨hW.1, hW.2.1, fun e => ft (h28.symm.trans e), fun e => ft (h31.symm.trans e), fun e => ft (h34.symm.trans e)⟩⟩
        refine StepsI.cons rfl ?_ ?_
        ·rintro L zA va ⟨zB, zS, rfl, rfl, hF, hW⟩ hL hm K hK
         have hb16 : zB 16 = false := by simpa using hL
         have hb15 : zB 15 = true := mt 15 hm (by kernel_rfl)
         have e15 : zS 54 = .bool false := hF.2.2.2.2.2.2.2.2.2.2.2.2.2.2.2.1 hb15
         clear hL hm
         rw [hb15] at hW
         simp only [pE]
         simp only [e15]
         have HWz := mkHid hW
         clear hW
         go_simp
         have hW := HWz.out
         clear HWz
         exact hK.out _ _ ⟨fun zj => if zj = 15 then true else if zj = 16 then true else zB zj, fun zd => if zd = 55 then .bool false else if zd = 54 then .bool false else zS zd, by simp [hb15], by kernel_rfl, ⟨hF.1, hF.2.1, hF.2.2.1, hF.2.2.2.1, hF.2.2.2.2.1, hF.2.2.2.2.2.1, hF.2.2.2.2.2.2.1, hF.2.2.2.2.2.2.2.1, hF.2.2.2.2.2.2.2.2.1, hF.2.2.2.2.2.2.2.2.2.1, hF.2.2.2.2.2.2.2.2.2.2.1, hF.2.2.2.2.2.2.2.2.2.2.2.1, hF.2.2.2.2.2.2.2.2.2.2.2.2.1, hF.2.2.2.2.2.2.2.2.2.2.2.2.2.1, hF.2.2.2.2.2.2.2.2.2.2.2.2.2.2.1, fun _ => rfl, fun _ => rfl, hF.2.2.2.2.2.2.2.2.2.2.2.2.2.2.2.2.2.1, hF.2.2.2.2.2.2.2.2.2.2.2.2.2.2.2.2.2.2.1, hF.2.2.2.2.2.2.2.2.2.2.2.2.2.2.2.2.2.2.2.1, hF.2.2.2.2.2.2.2.2.2.2.2.2.2.2.2.2.2.2.2.2.1, hF.2.2.2.2.2.2.2.2.2.2.2.2.2.2.2.2.2.2.2.2.2.1, hF.2.2.2.2.2.2.2.2.2.2.2.2.2.2.2.2.2.2.2.2.2.2.1, hF.2.2.2.2.2.2.2.2.2.2.2.2.2.2.2.2.2.2.2.2.2.2.2.1, hF.2.2.2.2.2.2.2.2.2.2.2.2.2.2.2.2.2.2.2.2.2.2.2.2.1, hF.2.2.2.2.2.2.2.2.2.2.2.2.2.2.2.2.2.2.2.2.2.2.2.2.2.1, hF.2.2.2.2.2.2.2.2.2.2.2.2.2.2.2.2.2.2.2.2.2.2.2.2.2.2.1, hF.2.2.2.2.2.2.2.2.2.2.2.2.2.2.2.2.2.2.2.2.2.2.2.2.2.2.2.1, hF.2.2.2.2.2.2.2.2.2.2.2.2.2.2.2.2.2.2.2.2.2.2.2.2.2.2.2.2.1, hF.2.2.2.2.2.2.2.2.2.2.2.2.2.2.2.2.2.2.2.2.2.2.2.2.2.2.2.2.2.1, hF.2.2.2.2.2.2.2.2.2.2.2.2.2.2.2.2.2.2.2.2.2.2.2.2.2.2.2.2.2.2.1, hF.2.2.2.2.2.2.2.2.2.2.2.2.2.2.2.2.2.2.2.2.2.2.2.2.2.2.2.2.2.2.2⟩, hW⟩
        refine StepsI.cons rfl ?_ ?_
        ·rintro L zA va ⟨zB, zS, rfl, rfl, hF, hW⟩ hL hm K hK
         have hb17 : zB 17 = false := by simpa using hL
         have hb16 : zB 16 = true := mt 16 hm (by kernel_rfl)
         have e16 : zS 55 = .bool false := hF.2.2.2.2.2.2.2.2.2.2.2.2.2.2.2.2.1 hb16
         clear hL hm
         simp only [pE]
         simp only [e16]
         rw [if_neg (by exact Bool.false_ne_true)]
         exact hK.out _ _ ⟨fun zj => if zj = 16 then true else if zj = 17 then true else zB zj, fun zd => if zd = 56 then undef else if zd = 55 then .bool false else zS zd, by simp [hb16], by kernel_rfl, ⟨hF.1, hF.2.1, hF.2.2.1, hF.2.2.2.1, hF.2.2.2.2.1, hF.2.2.2.2.2.1, hF.2.2.2.2.2.2.1, hF.2.2.2.2.2.2.2.1, hF.2.2.2.2.2.2.2.2.1, hF.2.2.2.2.2.2.2.2.2.1, hF.2.2.2.2.2.2.2.2.2.2.1, hF.2.2.2.2.2.2.2.2.2.2.2.1, hF.2.2.2.2.2.2.2.2.2.2.2.2.1, hF.2.2.2.2.2.2.2.2.2.2.2.2.2.1, hF.2.2.2.2.2.2.2.2.2.2.2.2.2.2.1, hF.2.2.2.2.2.2.2.2.2.2.2.2.2.2.2.1, fun _ => rfl, fun _ => rfl, hF.2.2.2.2.2.2.2.2.2.2.2.2.2.2.2.2.2.2.1, hF.2.2.2.2.2.2.2.2.2.2.2.2.2.2.2.2.2.2.2.1, hF.2.2.2.2.2.2.2.2.2.2.2.2.2.2.2.2.2.2.2.2.1, hF.2.2.2.2.2.2.2.2.2.2.2.2.2.2.2.2.2.2.2.2.2.1, hF.2.2.2.2.2.2.2.2.2.2.2.2.2.2.2.2.2.2.2.2.2.2.1, hF.2.2.2.2.2.2.2.2.2.2.2.2.2.2.2.2.2.2.2.2.2.2.2.1, hF.2.2.2.2.2.2.2.2.2.2.2.2.2.2.2.2.2.2.2.2.2.2.2.2.1, hF.2.2.2.2.2.2.2.2.2.2.2.2.2.2.2.2.2.2.2.2.2.2.2.2.2.1, hF.2.2.2.2.2.2.2.2.2.2.2.2.2.2.2.2.2.2.2.2.2.2.2.2.2.2.1, hF.2.2.2.2.2.2.2.2.2.2.2.2.2.2.2.2.2.2.2.2.2.2.2.2.2.2.2.1, hF.2.2.2.2.2.2.2.2.2.2.2.2.2.2.2.2.2.2.2.2.2.2.2.2.2.2.2.2.1, hF.2.2.2.2.2.2.2.2.2.2.2.2.2.2.2.2.2.2.2.2.2.2.2.2.2.2.2.2.2.1, hF.2.2.2.2.2.2.2.2.2.2.2.2.2.2.2.2.2.2.2.2.2.2.2.2.2.2.2.2.2.2.1, hF.2.2.2.2.2.2.2.2.2.2.2.2.2.2.2.2.2.2.2.2.2.2.2.2.2.2.2.2.2.2.2⟩, hW⟩
        refine StepsI.cons rfl ?_ ?_
        ·rintro L zA va ⟨zB, zS, rfl, rfl, hF, hW⟩ hL hm K hK
         have hb18 : zB 18 = false := by simpa using hL
         have hb16 : zB 16 = true := mt 16 hm (by kernel_rfl)
         have e16 : zS 55 = .bool false := hF.2.2.2.2.2.2.2.2.2.2.2.2.2.2.2.2.1 hb16
         clear hL hm
         simp only [pE]
         simp only [e16]
         rw [if_neg (by exact Bool.false_ne_true)]
         exact hK.out _ _ ⟨fun zj => if zj = 16 then true else if zj = 18 then true else zB zj, fun zd => if zd = 57 then undef else if zd = 55 then .bool false else zS zd, by simp [hb16], by kernel_rfl, ⟨hF.1, hF.2.1, hF.2.2.1, hF.2.2.2.1, hF.2.2.2.2.1, hF.2.2.2.2.2.1, hF.2.2.2.2.2.2.1, hF.2.2.2.2.2.2.2.1, hF.2.2.2.2.2.2.2.2.1, hF.2.2.2.2.2.2.2.2.2.1, hF.2.2.2.2.2.2.2.2.2.2.1, hF.2.2.2.2.2.2.2.2.2.2.2.1, hF.2.2.2.2.2.2.2.2.2.2.2.2.1, hF.2.2.2.2.2.2.2.2.2.2.2.2.2.1, hF.2.2.2.2.2.2.2.2.2.2.2.2.2.2.1, hF.2.2.2.2.2.2.2.2.2.2.2.2.2.2.2.1, fun _ => rfl, hF.2.2.2.2.2.2.2.2.2.2.2.2.2.2.2.2.2.1, fun _ => rfl, hF.2.2.2.2.2.2.2.2.2.2.2.2.2.2.2.2.2.2.2.1, hF.2.2.2.2.2.2.2.2.2.2.2.2.2.2.2.2.2.2.2.2.1, hF.2.2.2.2.2.2.2.2.2.2.2.2.2.2.2.2.2.2.2.2.2.1, hF.2.2.2.2.2.2.2.2.2.2.2.2.2.2.2.2.2.2.2.2.2.2.1, hF.2.2.2.2.2.2.2.2.2.2.2.2.2.2.2.2.2.2.2.2.2.2.2.1, hF.2.2.2.2.2.2.2.2.2.2.2.2.2.2.2.2.2.2.2.2.2.2.2.2.1, hF.2.2.2.2.2.2.2.2.2.2.2.2.2.2.2.2.2.2.2.2.2.2.2.2.2.1, hF.2.2.2.2.2.2.2.2.2.2.2.2.2.2.2.2.2.2.2.2.2.2.2.2.2.2.1, hF.2.2.2.2.2.2.2.2.2.2.2.2.2.2.2.2.2.2.2.2.2.2.2.2.2.2.2.1, hF.2.2.2.2.2.2.2.2.2.2.2.2.2.2.2.2.2.2.2.2.2.2.2.2.2.2.2.2.1, hF.2.2.2.2.2.2.2.2.2.2.2.2.2.2.2.2.2.2.2.2.2.2.2.2.2.2.2.2.2.1, hF.2.2.2.2.2.2.2.2.2.2.2.2.2.2.2.2.2.2.2.2.2.2.2.2.2.2.2.2.2.2.1, hF.2.2.2.2.2.2.2.2.2.2.2.2.2.2.2.2.2.2.2.2.2.2.2.2.2.2.2.2.2.2.2⟩, hW⟩
        refine StepsI.cons rfl ?_ ?_
        ·rintro L zA va ⟨zB, zS, rfl, rfl, hF, hW⟩ hL hm K hK
         have hb19 : zB 19 = false := by simpa using hL
         have hb16 : zB 16 = true := mt 16 hm (by kernel_rfl)
         have e16 : zS 55 = .bool false := hF.2.2.2.2.2.2.2.2.2.2.2.2.2.2.2.2.1 hb16
         clear hL hm
         simp only [pE]
         simp only [e16]
         rw [if_neg (by exact Bool.false_ne_true)]
         exact hK.out _ _ ⟨fun zj => if zj = 16 then true else if zj = 19 then true else zB zj, fun zd => if zd = 58 then undef else if zd = 55 then .bool false else zS zd, by simp [hb16], by kernel_rfl, ⟨hF.1, hF.2.1, hF.2.2.1, hF.2.2.2.1, hF.2.2.2.2.1, hF.2.2.2.2.2.1, hF.2.2.2.2.2.2.1, hF.2.2.2.2.2.2.2.1, hF.2.2.2.2.2.2.2.2.1, hF.2.2.2.2.2.2.2.2.2.1, hF.2.2.2.2.2.2.2.2.2.2.1, hF.2.2.2.2.2.2.2.2.2.2.2.1, hF.2.2.2.2.2.2.2.2.2.2.2.2.1, hF.2.2.2.2.2.2.2.2.2.2.2.2.2.1, hF.2.2.2.2.2.2.2.2.2.2.2.2.2.2.1, hF.2.2.2.2.2.2.2.2.2.2.2.2.2.2.2.1, fun _ => rfl, hF.2.2.2.2.2.2.2.2.2.2.2.2.2.2.2.2.2.1, hF.2.2.2.2.2.2.2.2.2.2.2.2.2.2.2.2.2.2.1, fun _ => rfl, hF.2.2.2.2.2.2.2.2.2.2.2.2.2.2.2.2.2.2.2.2.1, hF.2.2.2.2.2.2.2.2.2.2.2.2.2.2.2.2.2.2.2.2.2.1, hF.2.2.2.2.2.2.2.2.2.2.2.2.2.2.2.2.2.2.2.2.2.2.1, hF.2.2.2.2.2.2.2.2.2.2.2.2.2.2.2.2.2.2.2.2.2.2.2.1, hF.2.2.2.2.2.2.2.2.2.2.2.2.2.2.2.2.2.2.2.2.2.2.2.2.1, hF.2.2.2.2.2.2.2.2.2.2.2.2.2.2.2.2.2.2.2.2.2.2.2.2.2.1, hF.2.2.2.2.2.2.2.2.2.2.2.2.2.2.2.2.2.2.2.2.2.2.2.2.2.2.1, hF.2.2.2.2.2.2.2.2.2.2.2.2.2.2.2.2.2.2.2.2.2.2.2.2.2.2.2.1, hF.2.2.2.2.2.2.2.2.2.2.2.2.2.2.2.2.2.2.2.2.2.2.2.2.2.2.2.2.1, hF.2.2.2.2.2.2.2.2.2.2.2.2.2.2.2.2.2.2.2.2.2.2.2.2.2.2.2.2.2.1, hF.2.2.2.2.2.2.2.2.2.2.2.2.2.2.2.2.2.2.2.2.2.2.2.2.2.2.2.2.2.2.1, hF.2.2.2.2.2.2.2.2.2.2.2.2.2.2.2.2.2.2.2.2.2.2.2.2.2.2.2.2.2.2.2⟩, hW⟩
        refine StepsI.cons rfl ?_ ?_
        ·rintro L zA va ⟨zB, zS, rfl, rfl, hF, hW⟩ hL hm K hK
         have hb20 : zB 20 = false := by simpa using hL
         have hb16 : zB 16 = true := mt 16 hm (by kernel_rfl)
         have e16 : zS 55 = .bool false := hF.2.2.2.2.2.2.2.2.2.2.2.2.2.2.2.2.1 hb16
         clear hL hm
         simp only [pE]
         simp only [e16]
         rw [if_neg (by exact Bool.false_ne_true)]
         exact hK.out _ _ ⟨fun zj => if zj = 16 then true else if zj = 20 then true else zB zj, fun zd => if zd = 59 then undef else if zd = 55 then .bool false else zS zd, by simp [hb16], by kernel_rfl, ⟨hF.1, hF.2.1, hF.2.2.1, hF.2.2.2.1, hF.2.2.2.2.1, hF.2.2.2.2.2.1, hF.2.2.2.2.2.2.1, hF.2.2.2.2.2.2.2.1, hF.2.2.2.2.2.2.2.2.1, hF.2.2.2.2.2.2.2.2.2.1, hF.2.2.2.2.2.2.2.2.2.2.1, hF.2.2.2.2.2.2.2.2.2.2.2.1, hF.2.2.2.2.2.2.2.2.2.2.2.2.1, hF.2.2.2.2.2.2.2.2.2.2.2.2.2.1, hF.2.2.2.2.2.2.2.2.2.2.2.2.2.2.1, hF.2.2.2.2.2.2.2.2.2.2.2.2.2.2.2.1, fun _ => rfl, hF.2.2.2.2.2.2.2.2.2.2.2.2.2.2.2.2.2.1, hF.2.2.2.2.2.2.2.2.2.2.2.2.2.2.2.2.2.2.1, hF.2.2.2.2.2.2.2.2.2.2.2.2.2.2.2.2.2.2.2.1, fun _ => rfl, hF.2.2.2.2.2.2.2.2.2.2.2.2.2.2.2.2.2.2.2.2.2.1, hF.2.2.2.2.2.2.2.2.2.2.2.2.2.2.2.2.2.2.2.2.2.2.1, hF.2.2.2.2.2.2.2.2.2.2.2.2.2.2.2.2.2.2.2.2.2.2.2.1, hF.2.2.2.2.2.2.2.2.2.2.2.2.2.2.2.2.2.2.2.2.2.2.2.2.1, hF.2.2.2.2.2.2.2.2.2.2.2.2.2.2.2.2.2.2.2.2.2.2.2.2.2.1, hF.2.2.2.2.2.2.2.2.2.2.2.2.2.2.2.2.2.2.2.2.2.2.2.2.2.2.1, hF.2.2.2.2.2.2.2.2.2.2.2.2.2.2.2.2.2.2.2.2.2.2.2.2.2.2.2.1, hF.2.2.2.2.2.2.2.2.2.2.2.2.2.2.2.2.2.2.2.2.2.2.2.2.2.2.2.2.1, hF.2.2.2.2.2.2.2.2.2.2.2.2.2.2.2.2.2.2.2.2.2.2.2.2.2.2.2.2.2.1, hF.2.2.2.2.2.2.2.2.2.2.2.2.2.2.2.2.2.2.2.2.2.2.2.2.2.2.2.2.2.2.1, hF.2.2.2.2.2.2.2.2.2.2.2.2.2.2.2.2.2.2.2.2.2.2.2.2.2.2.2.2.2.2.2⟩, hW⟩
        refine StepsI.cons rfl ?_ ?_
        ·rintro L zA va ⟨zB, zS, rfl, rfl, hF, hW⟩ hL hm K hK
         have hb21 : zB 21 = false := by simpa using hL
         have hb16 : zB 16 = true := mt 16 hm (by kernel_rfl)
         have hb20 : zB 20 = true := mt 20 hm (by kernel_rfl)
         have e16 : zS 55 = .bool false := hF.2.2.2.2.2.2.2.2.2.2.2.2.2.2.2.2.1 hb16
         have e20 : zS 59 = undef := hF.2.2.2.2.2.2.2.2.2.2.2.2.2.2.2.2.2.2.2.2.1 hb20
         clear hL hm
         simp only [pE]
         simp only [e16, e20]
         have HWz := mkHid hW
         clear hW
         go_simp
         have hW := HWz.out
         clear HWz
         exact hK.out _ _ ⟨fun zj => if zj = 20 then true else if zj = 16 then true else if zj = 21 then true else zB zj, fun zd => if zd = 60 then .bool false else if zd = 59 then undef else if zd = 55 then .bool false else zS zd, by simp [hb16, hb20], by kernel_rfl, ⟨hF.1, hF.2.1, hF.2.2.1, hF.2.2.2.1, hF.2.2.2.2.1, hF.2.2.2.2.2.1, hF.2.2.2.2.2.2.1, hF.2.2.2.2.2.2.2.1, hF.2.2.2.2.2.2.2.2.1, hF.2.2.2.2.2.2.2.2.2.1, hF.2.2.2.2.2.2.2.2.2.2.1, hF.2.2.2.2.2.2.2.2.2.2.2.1, hF.2.2.2.2.2.2.2.2.2.2.2.2.1, hF.2.2.2.2.2.2.2.2.2.2.2.2.2.1, hF.2.2.2.2.2.2.2.2.2.2.2.2.2.2.1, hF.2.2.2.2.2.2.2.2.2.2.2.2.2.2.2.1, fun _ => rfl, hF.2.2.2.2.2.2.2.2.2.2.2.2.2.2.2.2.2.1, hF.2.2.2.2.2.2.2.2.2.2.2.2.2.2.2.2.2.2.1, hF.2.2.2.2.2.2.2.2.2.2.2.2.2.2.2.2.2.2.2.1, fun _ => rfl, fun _ => rfl, hF.2.2.2.2.2.2.2.2.2.2.2.2.2.2.2.2.2.2.2.2.2.2.1, hF.2.2.2.2.2.2.2.2.2.2.2.2.2.2.2.2.2.2.2.2.2.2.2.1, hF.2.2.2.2.2.2.2.2.2.2.2.2.2.2.2.2.2.2.2.2.2.2.2.2.1, hF.2.2.2.2.2.2.2.2.2.2.2.2.2.2.2.2.2.2.2.2.2.2.2.2.2.1, hF.2.2.2.2.2.2.2.2.2.2.2.2.2.2.2.2.2.2.2.2.2.2.2.2.2.2.1, hF.2.2.2.2.2.2.2.2.2.2.2.2.2.2.2.2.2.2.2.2.2.2.2.2.2.2.2.1, hF.2.2.2.2.2.2.2.2.2.2.2.2.2.2.2.2.2.2.2.2.2.2.2.2.2.2.2.2.1, hF.2.2.2.2.2.2.2.2.2.2.2.2.2.2.2.2.2.2.2.2.2.2.2.2.2.2.2.2.2.1, hF.2.2.2.2.2.2.2.2.2.2.2.2.2.2.2.2.2.2.2.2.2.2.2.2.2.2.2.2.2.2.1, hF.2.2.2.2.2.2.2.2.2.2.2.2.2.2.2.2.2.2.2.2.2.2.2.2.2.2.2.2.2.2.2⟩, hW⟩
        refine StepsI.cons rfl ?_ ?_
        ·rintro L zA va ⟨zB, zS, rfl, rfl, hF, hW⟩ hL hm K hK
         have hb22 : zB 22 = false := by simpa using hL
         clear hL hm
         simp only [pE]
         have HWz := mkHid hW
         clear hW
         go_simp
         have hW := HWz.out
         clear HWz
         exact hK.out _ _ ⟨fun zj => if zj = 22 then true else zB zj, fun zd => if zd = 61 then .pointer (some ⟨Xn, 0, none⟩) else zS zd, rfl, by kernel_rfl, ⟨hF.1, hF.2.1, hF.2.2.1, hF.2.2.2.1, hF.2.2.2.2.1, hF.2.2.2.2.2.1, hF.2.2.2.2.2.2.1, hF.2.2.2.2.2.2.2.1, hF.2.2.2.2.2.2.2.2.1, hF.2.2.2.2.2.2.2.2.2.1, hF.2.2.2.2.2.2.2.2.2.2.1, hF.2.2.2.2.2.2.2.2.2.2.2.1, hF.2.2.2.2.2.2.2.2.2.2.2.2.1, hF.2.2.2.2.2.2.2.2.2.2.2.2.2.1, hF.2.2.2.2.2.2.2.2.2.2.2.2.2.2.1, hF.2.2.2.2.2.2.2.2.2.2.2.2.2.2.2.1, hF.2.2.2.2.2.2.2.2.2.2.2.2.2.2.2.2.1, hF.2.2.2.2.2.2.2.2.2.2.2.2.2.2.2.2.2.1, hF.2.2.2.2.2.2.2.2.2.2.2.2.2.2.2.2.2.2.1, hF.2.2.2.2.2.2.2.2.2.2.2.2.2.2.2.2.2.2.2.1, hF.2.2.2.2.2.2.2.2.2.2.2.2.2.2.2.2.2.2.2.2.1, hF.2.2.2.2.2.2.2.2.2.2.2.2.2.2.2.2.2.2.2.2.2.1, fun _ => rfl, hF.2.2.2.2.2.2.2.2.2.2.2.2.2.2.2.2.2.2.2.2.2.2.2.1, hF.2.2.2.2.2.2.2.2.2.2.2.2.2.2.2.2.2.2.2.2.2.2.2.2.1, hF.2.2.2.2.2.2.2.2.2.2.2.2.2.2.2.2.2.2.2.2.2.2.2.2.2.1, hF.2.2.2.2.2.2.2.2.2.2.2.2.2.2.2.2.2.2.2.2.2.2.2.2.2.2.1, hF.2.2.2.2.2.2.2.2.2.2.2.2.2.2.2.2.2.2.2.2.2.2.2.2.2.2.2.1, hF.2.2.2.2.2.2.2.2.2.2.2.2.2.2.2.2.2.2.2.2.2.2.2.2.2.2.2.2.1, hF.2.2.2.2.2.2.2.2.2.2.2.2.2.2.2.2.2.2.2.2.2.2.2.2.2.2.2.2.2.1, hF.2.2.2.2.2.2.2.2.2.2.2.2.2.2.2.2.2.2.2.2.2.2.2.2.2.2.2.2.2.2.1, hF.2.2.2.2.2.2.2.2.2.2.2.2.2.2.2.2.2.2.2.2.2.2.2.2.2.2.2.2.2.2.2⟩, hW⟩
        refine StepsI.cons rfl ?_ ?_
        ·rintro L zA va ⟨zB, zS, rfl, rfl, hF, hW⟩ hL hm K hK
         have hb23 : zB 23 = false := by simpa using hL
         have hb22 : zB 22 = true := mt 22 hm (by kernel_rfl)
         have e22 : zS 61 = .pointer (some ⟨Xn, 0, none⟩) := hF.2.2.2.2.2.2.2.2.2.2.2.2.2.2.2.2.2.2.2.2.2.2.1 hb22
         clear hL hm
         simp only [pE]
         simp only [e22]
         have HWz := mkHid hW
         clear hW
         go_simp
         have hW := HWz.out
         clear HWz
         exact hK.out _ _ ⟨fun zj => if zj = 22 then true else if zj = 23 then true else zB zj, fun zd => if zd = 62 then .pointer (some ⟨Xn, 0, none⟩) else if zd = 61 then .pointer (some ⟨Xn, 0, none⟩) else zS zd, by simp [hb22], by kernel_rfl, ⟨hF.1, hF.2.1, hF.2.2.1, hF.2.2.2.1, hF.2.2.2.2.1, hF.2.2.2.2.2.1, hF.2.2.2.2.2.2.1, hF.2.2.2.2.2.2.2.1, hF.2.2.2.2.2.2.2.2.1, hF.2.2.2.2.2.2.2.2.2.1, hF.2.2.2.2.2.2.2.2.2.2.1, hF.2.2.2.2.2.2.2.2.2.2.2.1, hF.2.2.2.2.2.2.2.2.2.2.2.2.1, hF.2.2.2.2.2.2.2.2.2.2.2.2.2.1, hF.2.2.2.2.2.2.2.2.2.2.2.2.2.2.1, hF.2.2.2.2.2.2.2.2.2.2.2.2.2.2.2.1, hF.2.2.2.2.2.2.2.2.2.2.2.2.2.2.2.2.1, hF.2.2.2.2.2.2.2.2.2.2.2.2.2.2.2.2.2.1, hF.2.2.2.2.2.2.2.2.2.2.2.2.2.2.2.2.2.2.1, hF.2.2.2.2.2.2.2.2.2.2.2.2.2.2.2.2.2.2.2.1, hF.2.2.2.2.2.2.2.2.2.2.2.2.2.2.2.2.2.2.2.2.1, hF.2.2.2.2.2.2.2.2.2.2.2.2.2.2.2.2.2.2.2.2.2.1, fun _ => rfl, fun _ => rfl, hF.2.2.2.2.2.2.2.2.2.2.2.2.2.2.2.2.2.2.2.2.2.2.2.2.1, hF.2.2.2.2.2.2.2.2.2.2.2.2.2.2.2.2.2.2.2.2.2.2.2.2.2.1, hF.2.2.2.2.2.2.2.2.2.2.2.2.2.2.2.2.2.2.2.2.2.2.2.2.2.2.1, hF.2.2.2.2.2.2.2.2.2.2.2.2.2.2.2.2.2.2.2.2.2.2.2.2.2.2.2.1, hF.2.2.2.2.2.2.2.2.2.2.2.2.2.2.2.2.2.2.2.2.2.2.2.2.2.2.2.2.1, hF.2.2.2.2.2.2.2.2.2.2.2.2.2.2.2.2.2.2.2.2.2.2.2.2.2.2.2.2.2.1, hF.2.2.2.2.2.2.2.2.2.2.2.2.2.2.2.2.2.2.2.2.2.2.2.2.2.2.2.2.2.2.1, hF.2.2.2.2.2.2.2.2.2.2.2.2.2.2.2.2.2.2.2.2.2.2.2.2.2.2.2.2.2.2.2⟩, hW⟩
        refine StepsI.cons rfl ?_ ?_
        ·rintro L zA va ⟨zB, zS, rfl, rfl, hF, hW⟩ hL hm K hK
         have hb24 : zB 24 = false := by simpa using hL
         have hb23 : zB 23 = true := mt 23 hm (by kernel_rfl)
         have e23 : zS 62 = .pointer (some ⟨Xn, 0, none⟩) := hF.2.2.2.2.2.2.2.2.2.2.2.2.2.2.2.2.2.2.2.2.2.2.2.1 hb23
         clear hL hm
         simp only [pE]
         simp only [e23]
         have HWz := mkHid hW
         clear hW
         go_simp
         have hW := HWz.out
         clear HWz
         exact hK.out _ _ ⟨fun zj => if zj = 23 then true else if zj = 24 then true else zB zj, fun zd => if zd = 63 then .pointer (some ⟨Xn, 6, none⟩) else if zd = 62 then .pointer (some ⟨Xn, 0, none⟩) else zS zd, by simp [hb23], by kernel_rfl, ⟨hF.1, hF.2.1, hF.2.2.1, hF.2.2.2.1, hF.2.2.2.2.1, hF.2.2.2.2.2.1, hF.2.2.2.2.2.2.1, hF.2.2.2.2.2.2.2.1, hF.2.2.2.2.2.2.2.2.1, hF.2.2.2.2.2.2.2.2.2.1, hF.2.2.2.2.2.2.2.2.2.2.1, hF.2.2.2.2.2.2.2.2.2.2.2.1, hF.2.2.2.2.2.2.2.2.2.2.2.2.1, hF.2.2.2.2.2.2.2.2.2.2.2.2.2.1, hF.2.2.2.2.2.2.2.2.2.2.2.2.2.2.1, hF.2.2.2.2.2.2.2.2.2.2.2.2.2.2.2.1, hF.2.2.2.2.2.2.2.2.2.2.2.2.2.2.2.2.1, hF.2.2.2.2.2.2.2.2.2.2.2.2.2.2.2.2.2.1, hF.2.2.2.2.2.2.2.2.2.2.2.2.2.2.2.2.2.2.1, hF.2.2.2.2.2.2.2.2.2.2.2.2.2.2.2.2.2.2.2.1, hF.2.2.2.2.2.2.2.2.2.2.2.2.2.2.2.2.2.2.2.2.1, hF.2.2.2.2.2.2.2.2.2.2.2.2.2.2.2.2.2.2.2.2.2.1, hF.2.2.2.2.2.2.2.2.2.2.2.2.2.2.2.2.2.2.2.2.2.2.1, fun _ => rfl, fun _ => rfl, hF.2.2.2.2.2.2.2.2.2.2.2.2.2.2.2.2.2.2.2.2.2.2.2.2.2.1, hF.2.2.2.2.2.2.2.2.2.2.2.2.2.2.2.2.2.2.2.2.2.2.2.2.2.2.1, hF.2.2.2.2.2.2.2.2.2.2.2.2.2.2.2.2.2.2.2.2.2.2.2.2.2.2.2.1, hF.2.2.2.2.2.2.2.2.2.2.2.2.2.2.2.2.2.2.2.2.2.2.2.2.2.2.2.2.1, hF.2.2.2.2.2.2.2.2.2.2.2.2.2.2.2.2.2.2.2.2.2.2.2.2.2.2.2.2.2.1, hF.2.2.2.2.2.2.2.2.2.2.2.2.2.2.2.2.2.2.2.2.2.2.2.2.2.2.2.2.2.2.1, hF.2.2.2.2.2.2.2.2.2.2.2.2.2.2.2.2.2.2.2.2.2.2.2.2.2.2.2.2.2.2.2⟩, hW⟩
        refine StepsI.cons rfl ?_ ?_
        ·rintro L zA va ⟨zB, zS, rfl, rfl, hF, hW⟩ hL hm K hK
         have hb25 : zB 25 = false := by simpa using hL
         have hb24 : zB 24 = true := mt 24 hm (by kernel_rfl)
         have e24 : zS 63 = .pointer (some ⟨Xn, 6, none⟩) := hF.2.2.2.2.2.2.2.2.2.2.2.2.2.2.2.2.2.2.2.2.2.2.2.2.1 hb24
         clear hL hm
         simp only [pE]
         simp only [e24]
         obtain ⟨_, _, n2, n3, n4, n5, n6, _, _, _, _, _, _, _⟩ := hnext va hW.1
         have HWz := mkHid hW
         clear hW
         go_simp
         have hW := HWz.out
         clear HWz
         exact hK.out _ _ ⟨fun zj => if zj = 24 then true else if zj = 25 then true else zB zj, fun zd => if zd = 64 then .pointer pp else if zd = 63 then .pointer (some ⟨Xn, 6, none⟩) else zS zd, by simp [hb24], by kernel_rfl, ⟨hF.1, hF.2.1, hF.2.2.1, hF.2.2.2.1, hF.2.2.2.2.1, hF.2.2.2.2.2.1, hF.2.2.2.2.2.2.1, hF.2.2.2.2.2.2.2.1, hF.2.2.2.2.2.2.2.2.1, hF.2.2.2.2.2.2.2.2.2.1, hF.2.2.2.2.2.2.2.2.2.2.1, hF.2.2.2.2.2.2.2.2.2.2.2.1, hF.2.2.2.2.2.2.2.2.2.2.2.2.1, hF.2.2.2.2.2.2.2.2.2.2.2.2.2.1, hF.2.2.2.2.2.2.2.2.2.2.2.2.2.2.1, hF.2.2.2.2.2.2.2.2.2.2.2.2.2.2.2.1, hF.2.2.2.2.2.2.2.2.2.2.2.2.2.2.2.2.1, hF.2.2.2.2.2.2.2.2.2.2.2.2.2.2.2.2.2.1, hF.2.2.2.2.2.2.2.2.2.2.2.2.2.2.2.2.2.2.1, hF.2.2.2.2.2.2.2.2.2.2.2.2.2.2.2.2.2.2.2.1, hF.2.2.2.2.2.2.2.2.2.2.2.2.2.2.2.2.2.2.2.2.1, hF.2.2.2.2.2.2.2.2.2.2.2.2.2.2.2.2.2.2.2.2.2.1, hF.2.2.2.2.2.2.2.2.2.2.2.2.2.2.2.2.2.2.2.2.2.2.1, hF.2.2.2.2.2.2.2.2.2.2.2.2.2.2.2.2.2.2.2.2.2.2.2.1, fun _ => rfl, fun _ => rfl, hF.2.2.2.2.2.2.2.2.2.2.2.2.2.2.2.2.2.2.2.2.2.2.2.2.2.2.1, hF.2.2.2.2.2.2.2.2.2.2.2.2.2.2.2.2.2.2.2.2.2.2.2.2.2.2.2.1, hF.2.2.2.2.2.2.2.2.2.2.2.2.2.2.2.2.2.2.2.2.2.2.2.2.2.2.2.2.1, hF.2.2.2.2.2.2.2.2.2.2.2.2.2.2.2.2.2.2.2.2.2.2.2.2.2.2.2.2.2.1, hF.2.2.2.2.2.2.2.2.2.2.2.2.2.2.2.2.2.2.2.2.2.2.2.2.2.2.2.2.2.2.1, hF.2.2.2.2.2.2.2.2.2.2.2.2.2.2.2.2.2.2.2.2.2.2.2.2.2.2.2.2.2.2.2⟩, hW⟩
        refine StepsI.cons rfl ?_ ?_
        ·rintro L zA va ⟨zB, zS, rfl, rfl, hF, hW⟩ hL hm K hK
         have hb26 : zB 26 = false := by simpa using hL
         have hb0 : zB 0 = true := mt 0 hm (by kernel_rfl)
         have e0 : zS 39 = .pointer (some ⟨Xa, 0, none⟩) := hF.1 hb0
         clear hL hm
         simp only [pE]
         simp only [e0]
         have HWz := mkHid hW
         clear hW
         go_simp
         have hW := HWz.out
         clear HWz
         exact hK.out _ _ ⟨fun zj => if zj = 0 then true else if zj = 26 then true else zB zj, fun zd => if zd = 65 then .pointer (some ⟨Xa, 0, none⟩) else if zd = 39 then .pointer (some ⟨Xa, 0, none⟩) else zS zd, by simp [hb0], by kernel_rfl, ⟨fun _ => rfl, hF.2.1, hF.2.2.1, hF.2.2.2.1, hF.2.2.2.2.1, hF.2.2.2.2.2.1, hF.2.2.2.2.2.2.1, hF.2.2.2.2.2.2.2.1, hF.2.2.2.2.2.2.2.2.1, hF.2.2.2.2.2.2.2.2.2.1, hF.2.2.2.2.2.2.2.2.2.2.1, hF.2.2.2.2.2.2.2.2.2.2.2.1, hF.2.2.2.2.2.2.2.2.2.2.2.2.1, hF.2.2.2.2.2.2.2.2.2.2.2.2.2.1, hF.2.2.2.2.2.2.2.2.2.2.2.2.2.2.1, hF.2.2.2.2.2.2.2.2.2.2.2.2.2.2.2.1, hF.2.2.2.2.2.2.2.2.2.2.2.2.2.2.2.2.1, hF.2.2.2.2.2.2.2.2.2.2.2.2.2.2.2.2.2.1, hF.2.2.2.2.2.2.2.2.2.2.2.2.2.2.2.2.2.2.1, hF.2.2.2.2.2.2.2.2.2.2.2.2.2.2.2.2.2.2.2.1, hF.2.2.2.2.2.2.2.2.2.2.2.2.2.2.2.2.2.2.2.2.1, hF.2.2.2.2.2.2.2.2.2.2.2.2.2.2.2.2.2.2.2.2.2.1, hF.2.2.2.2.2.2.2.2.2.2.2.2.2.2.2.2.2.2.2.2.2.2.1, hF.2.2.2.2.2.2.2.2.2.2.2.2.2.2.2.2.2.2.2.2.2.2.2.1, hF.2.2.2.2.2.2.2.2.2.2.2.2.2.2.2.2.2.2.2.2.2.2.2.2.1, hF.2.2.2.2.2.2.2.2.2.2.2.2.2.2.2.2.2.2.2.2.2.2.2.2.2.1, fun _ => rfl, hF.2.2.2.2.2.2.2.2.2.2.2.2.2.2.2.2.2.2.2.2.2.2.2.2.2.2.2.1, hF.2.2.2.2.2.2.2.2.2.2.2.2.2.2.2.2.2.2.2.2.2.2.2.2.2.2.2.2.1, hF.2.2.2.2.2.2.2.2.2.2.2.2.2.2.2.2.2.2.2.2.2.2.2.2.2.2.2.2.2.1, hF.2.2.2.2.2.2.2.2.2.2.2.2.2.2.2.2.2.2.2.2.2.2.2.2.2.2.2.2.2.2.1, hF.2.2.2.2.2.2.2.2.2.2.2.2.2.2.2.2.2.2.2.2.2.2.2.2.2.2.2.2.2.2.2⟩, hW⟩
        refine StepsI.cons rfl ?_ ?_
        ·rintro L zA va ⟨zB, zS, rfl, rfl, hF, hW⟩ hL hm K hK
         have hb27 : zB 27 = false := by simpa using hL
         have hb26 : zB 26 = true := mt 26 hm (by kernel_rfl)
         have e26 : zS 65 = .pointer (some ⟨Xa, 0, none⟩) := hF.2.2.2.2.2.2.2.2.2.2.2.2.2.2.2.2.2.2.2.2.2.2.2.2.2.2.1 hb26
         clear hL hm
         simp only [pE]
         simp only [e26]
         have HWz := mkHid hW
         clear hW
         go_simp
         have hW := HWz.out
         clear HWz
         exact hK.out _ _ ⟨fun zj => if zj = 26 then true else if zj = 27 then true else zB zj, fun zd => if zd = 66 then .pointer (some ⟨Xa, 2, none⟩) else if zd = 65 then .pointer (some ⟨Xa, 0, none⟩) else zS zd, by simp [hb26], by kernel_rfl, ⟨hF.1, hF.2.1, hF.2.2.1, hF.2.2.2.1, hF.2.2.2.2.1, hF.2.2.2.2.2.1, hF.2.2.2.2.2.2.1, hF.2.2.2.2.2.2.2.1, hF.2.2.2.2.2.2.2.2.1, hF.2.2.2.2.2.2.2.2.2.1, hF.2.2.2.2.2.2.2.2.2.2.1, hF.2.2.2.2.2.2.2.2.2.2.2.1, hF.2.2.2.2.2.2.2.2.2.2.2.2.1, hF.2.2.2.2.2.2.2.2.2.2.2.2.2.1, hF.2.2.2.2.2.2.2.2.2.2.2.2.2.2.1, hF.2.2.2.2.2.2.2.2.2.2.2.2.2.2.2.1, hF.2.2.2.2.2.2.2.2.2.2.2.2.2.2.2.2.1, hF.2.2.2.2.2.2.2.2.2.2.2.2.2.2.2.2.2.1, hF.2.2.2.2.2.2.2.2.2.2.2.2.2.2.2.2.2.2.1, hF.2.2.2.2.2.2.2.2.2.2.2.2.2.2.2.2.2.2.2.1, hF.2.2.2.2.2.2.2.2.2.2.2.2.2.2.2.2.2.2.2.2.1, hF.2.2.2.2.2.2.2.2.2.2.2.2.2.2.2.2.2.2.2.2.2.1, hF.2.2.2.2.2.2.2.2.2.2.2.2.2.2.2.2.2.2.2.2.2.2.1, hF.2.2.2.2.2.2.2.2.2.2.2.2.2.2.2.2.2.2.2.2.2.2.2.1, hF.2.2.2.2.2.2.2.2.2.2.2.2.2.2.2.2.2.2.2.2.2.2.2.2.1, hF.2.2.2.2.2.2.2.2.2.2.2.2.2.2.2.2.2.2.2.2.2.2.2.2.2.1, fun _ => rfl, fun _ => rfl, hF.2.2.2.2.2.2.2.2.2.2.2.2.2.2.2.2.2.2.2.2.2.2.2.2.2.2.2.2.1, hF.2.2.2.2.2.2.2.2.2.2.2.2.2.2.2.2.2.2.2.2.2.2.2.2.2.2.2.2.2.1, hF.2.2.2.2.2.2.2.2.2.2.2.2.2.2.2.2.2.2.2.2.2.2.2.2.2.2.2.2.2.2.1, hF.2.2.2.2.2.2.2.2.2.2.2.2.2.2.2.2.2.2.2.2.2.2.2.2.2.2.2.2.2.2.2⟩, hW⟩
        refine StepsI.cons rfl ?_ ?_
        ·rintro L zA va ⟨zB, zS, rfl, rfl, hF, hW⟩ hL hm K hK
         have hb28 : zB 28 = false := by simpa using hL
         have hb6 : zB 6 = true := mt 6 hm (by kernel_rfl)
         have hb11 : zB 11 = true := mt 11 hm (by kernel_rfl)
         have hb15 : zB 15 = true := mt 15 hm (by kernel_rfl)
         have hb27 : zB 27 = true := mt 27 hm (by kernel_rfl)
         have e6 : zS 45 = .agg #[.int .i64 vv.1, .int .i64 vv.2.1, .bool vv.2.2] := hF.2.2.2.2.2.2.1 hb6
         have e11 : zS 50 = .agg #[.int .i64 vj.1, .int .i64 vj.2.1, .bool vj.2.2] := hF.2.2.2.2.2.2.2.2.2.2.2.1 hb11
         have e15 : zS 54 = .bool false := hF.2.2.2.2.2.2.2.2.2.2.2.2.2.2.2.1 hb15
         have e27 : zS 66 = .pointer (some ⟨Xa, 2, none⟩) := hF.2.2.2.2.2.2.2.2.2.2.2.2.2.2.2.2.2.2.2.2.2.2.2.2.2.2.2.1 hb27
         clear hL hm
         rw [hb28] at hW
         rw [hb6] at hW
         rw [hb15] at hW
         simp only [pE]
         simp only [e6, e11, e15, e27]
         have hC := hW.2.1
         obtain ⟨_, _, c2, c3, c4, c5, c6, _, _, f2, f3, f4, f5, f6⟩ := cel_of hC
         have HWz := mkHid hW
         clear hW
         go_simp
         have hW := HWz.out
         clear HWz
         exact hK.out _ _ ⟨fun zj => if zj = 27 then true else if zj = 15 then true else if zj = 11 then true else if zj = 6 then true else if zj = 28 then true else zB zj, fun zd => if zd = 66 then .pointer (some ⟨Xa, 2, none⟩) else if zd = 54 then .bool false else if zd = 50 then .agg #[.int .i64 vj.1, .int .i64 vj.2.1, .bool vj.2.2] else if zd = 45 then .agg #[.int .i64 vv.1, .int .i64 vv.2.1, .bool vv.2.2] else zS zd, by simp [hb6, hb11, hb15, hb27], by kernel_rfl, ⟨hF.1, hF.2.1, hF.2.2.1, hF.2.2.2.1, hF.2.2.2.2.1, hF.2.2.2.2.2.1, fun _ => rfl, hF.2.2.2.2.2.2.2.1, hF.2.2.2.2.2.2.2.2.1, hF.2.2.2.2.2.2.2.2.2.1, hF.2.2.2.2.2.2.2.2.2.2.1, fun _ => rfl, hF.2.2.2.2.2.2.2.2.2.2.2.2.1, hF.2.2.2.2.2.2.2.2.2.2.2.2.2.1, hF.2.2.2.2.2.2.2.2.2.2.2.2.2.2.1, fun _ => rfl, hF.2.2.2.2.2.2.2.2.2.2.2.2.2.2.2.2.1, hF.2.2.2.2.2.2.2.2.2.2.2.2.2.2.2.2.2.1, hF.2.2.2.2.2.2.2.2.2.2.2.2.2.2.2.2.2.2.1, hF.2.2.2.2.2.2.2.2.2.2.2.2.2.2.2.2.2.2.2.1, hF.2.2.2.2.2.2.2.2.2.2.2.2.2.2.2.2.2.2.2.2.1, hF.2.2.2.2.2.2.2.2.2.2.2.2.2.2.2.2.2.2.2.2.2.1, hF.2.2.2.2.2.2.2.2.2.2.2.2.2.2.2.2.2.2.2.2.2.2.1, hF.2.2.2.2.2.2.2.2.2.2.2.2.2.2.2.2.2.2.2.2.2.2.2.1, hF.2.2.2.2.2.2.2.2.2.2.2.2.2.2.2.2.2.2.2.2.2.2.2.2.1, hF.2.2.2.2.2.2.2.2.2.2.2.2.2.2.2.2.2.2.2.2.2.2.2.2.2.1, hF.2.2.2.2.2.2.2.2.2.2.2.2.2.2.2.2.2.2.2.2.2.2.2.2.2.2.1, fun _ => rfl, hF.2.2.2.2.2.2.2.2.2.2.2.2.2.2.2.2.2.2.2.2.2.2.2.2.2.2.2.2.1, hF.2.2.2.2.2.2.2.2.2.2.2.2.2.2.2.2.2.2.2.2.2.2.2.2.2.2.2.2.2.1, hF.2.2.2.2.2.2.2.2.2.2.2.2.2.2.2.2.2.2.2.2.2.2.2.2.2.2.2.2.2.2.1, hF.2.2.2.2.2.2.2.2.2.2.2.2.2.2.2.2.2.2.2.2.2.2.2.2.2.2.2.2.2.2.2⟩, ⟨(((hW.1.trans (Only.set _ _ _ _)).trans (Only.set _ _ _ _)).trans (Only.set _ _ _ _)), by rw [(heap_set_self (heap_set_self (heap_set_self hW.2.1 _ _) _ _) _ _)]; rfl, fun _ => ⟨rfl, rfl⟩, hW.2.2.2.1, hW.2.2.2.2⟩⟩
        refine StepsI.cons rfl ?_ ?_
        ·rintro L zA va ⟨zB, zS, rfl, rfl, hF, hW⟩ hL hm K hK
         have hb29 : zB 29 = false := by simpa using hL
         have hb1 : zB 1 = true := mt 1 hm (by kernel_rfl)
         have e1 : zS 40 = .pointer (some ⟨Xa, 0, none⟩) := hF.2.1 hb1
         clear hL hm
         simp only [pE]
         simp only [e1]
         have HWz := mkHid hW
         clear hW
         go_simp
         have hW := HWz.out
         clear HWz
         exact hK.out _ _ ⟨fun zj => if zj = 1 then true else if zj = 29 then true else zB zj, fun zd => if zd = 67 then .pointer (some ⟨Xa, 0, none⟩) else if zd = 40 then .pointer (some ⟨Xa, 0, none⟩) else zS zd, by simp [hb1], by kernel_rfl, ⟨hF.1, fun _ => rfl, hF.2.2.1, hF.2.2.2.1, hF.2.2.2.2.1, hF.2.2.2.2.2.1, hF.2.2.2.2.2.2.1, hF.2.2.2.2.2.2.2.1, hF.2.2.2.2.2.2.2.2.1, hF.2.2.2.2.2.2.2.2.2.1, hF.2.2.2.2.2.2.2.2.2.2.1, hF.2.2.2.2.2.2.2.2.2.2.2.1, hF.2.2.2.2.2.2.2.2.2.2.2.2.1, hF.2.2.2.2.2.2.2.2.2.2.2.2.2.1, hF.2.2.2.2.2.2.2.2.2.2.2.2.2.2.1, hF.2.2.2.2.2.2.2.2.2.2.2.2.2.2.2.1, hF.2.2.2.2.2.2.2.2.2.2.2.2.2.2.2.2.1, hF.2.2.2.2.2.2.2.2.2.2.2.2.2.2.2.2.2.1, hF.2.2.2.2.2.2.2.2.2.2.2.2.2.2.2.2.2.2.1, hF.2.2.2.2.2.2.2.2.2.2.2.2.2.2.2.2.2.2.2.1, hF.2.2.2.2.2.2.2.2.2.2.2.2.2.2.2.2.2.2.2.2.1, hF.2.2.2.2.2.2.2.2.2.2.2.2.2.2.2.2.2.2.2.2.2.1, hF.2.2.2.2.2.2.2.2.2.2.2.2.2.2.2.2.2.2.2.2.2.2.1, hF.2.2.2.2.2.2.2.2.2.2.2.2.2.2.2.2.2.2.2.2.2.2.2.1, hF.2.2.2.2.2.2.2.2.2.2.2.2.2.2.2.2.2.2.2.2.2.2.2.2.1, hF.2.2.2.2.2.2.2.2.2.2.2.2.2.2.2.2.2.2.2.2.2.2.2.2.2.1, hF.2.2.2.2.2.2.2.2.2.2.2.2.2.2.2.2.2.2.2.2.2.2.2.2.2.2.1, hF.2.2.2.2.2.2.2.2.2.2.2.2.2.2.2.2.2.2.2.2.2.2.2.2.2.2.2.1, fun _ => rfl, hF.2.2.2.2.2.2.2.2.2.2.2.2.2.2.2.2.2.2.2.2.2.2.2.2.2.2.2.2.2.1, hF.2.2.2.2.2.2.2.2.2.2.2.2.2.2.2.2.2.2.2.2.2.2.2.2.2.2.2.2.2.2.1, hF.2.2.2.2.2.2.2.2.2.2.2.2.2.2.2.2.2.2.2.2.2.2.2.2.2.2.2.2.2.2.2⟩, hW⟩
        refine StepsI.cons rfl ?_ ?_
        ·rintro L zA va ⟨zB, zS, rfl, rfl, hF, hW⟩ hL hm K hK
         have hb30 : zB 30 = false := by simpa using hL
         have hb29 : zB 29 = true := mt 29 hm (by kernel_rfl)
         have e29 : zS 67 = .pointer (some ⟨Xa, 0, none⟩) := hF.2.2.2.2.2.2.2.2.2.2.2.2.2.2.2.2.2.2.2.2.2.2.2.2.2.2.2.2.1 hb29
         clear hL hm
         simp only [pE]
         simp only [e29]
         have HWz := mkHid hW
         clear hW
         go_simp
         have hW := HWz.out
         clear HWz
         exact hK.out _ _ ⟨fun zj => if zj = 29 then true else if zj = 30 then true else zB zj, fun zd => if zd = 68 then .pointer (some ⟨Xa, 5, none⟩) else if zd = 67 then .pointer (some ⟨Xa, 0, none⟩) else zS zd, by simp [hb29], by kernel_rfl, ⟨hF.1, hF.2.1, hF.2.2.1, hF.2.2.2.1, hF.2.2.2.2.1, hF.2.2.2.2.2.1, hF.2.2.2.2.2.2.1, hF.2.2.2.2.2.2.2.1, hF.2.2.2.2.2.2.2.2.1, hF.2.2.2.2.2.2.2.2.2.1, hF.2.2.2.2.2.2.2.2.2.2.1, hF.2.2.2.2.2.2.2.2.2.2.2.1, hF.2.2.2.2.2.2.2.2.2.2.2.2.1, hF.2.2.2.2.2.2.2.2.2.2.2.2.2.1, hF.2.2.2.2.2.2.2.2.2.2.2.2.2.2.1, hF.2.2.2.2.2.2.2.2.2.2.2.2.2.2.2.1, hF.2.2.2.2.2.2.2.2.2.2.2.2.2.2.2.2.1, hF.2.2.2.2.2.2.2.2.2.2.2.2.2.2.2.2.2.1, hF.2.2.2.2.2.2.2.2.2.2.2.2.2.2.2.2.2.2.1, hF.2.2.2.2.2.2.2.2.2.2.2.2.2.2.2.2.2.2.2.1, hF.2.2.2.2.2.2.2.2.2.2.2.2.2.2.2.2.2.2.2.2.1, hF.2.2.2.2.2.2.2.2.2.2.2.2.2.2.2.2.2.2.2.2.2.1, hF.2.2.2.2.2.2.2.2.2.2.2.2.2.2.2.2.2.2.2.2.2.2.1, hF.2.2.2.2.2.2.2.2.2.2.2.2.2.2.2.2.2.2.2.2.2.2.2.1, hF.2.2.2.2.2.2.2.2.2.2.2.2.2.2.2.2.2.2.2.2.2.2.2.2.1, hF.2.2.2.2.2.2.2.2.2.2.2.2.2.2.2.2.2.2.2.2.2.2.2.2.2.1, hF.2.2.2.2.2.2.2.2.2.2.2.2.2.2.2.2.2.2.2.2.2.2.2.2.2.2.1, hF.2.2.2.2.2.2.2.2.2.2.2.2.2.2.2.2.2.2.2.2.2.2.2.2.2.2.2.1, fun _ => rfl, fun _ => rfl, hF.2.2.2.2.2.2.2.2.2.2.2.2.2.2.2.2.2.2.2.2.2.2.2.2.2.2.2.2.2.2.1, hF.2.2.2.2.2.2.2.2.2.2.2.2.2.2.2.2.2.2.2.2.2.2.2.2.2.2.2.2.2.2.2⟩, hW⟩
        refine StepsI.cons rfl ?_ ?_
        ·rintro L zA va ⟨zB, zS, rfl, rfl, hF, hW⟩ hL hm K hK
         have hb31 : zB 31 = false := by simpa using hL
         have hb6 : zB 6 = true := mt 6 hm (by kernel_rfl)
         have hb15 : zB 15 = true := mt 15 hm (by kernel_rfl)
         have hb21 : zB 21 = true := mt 21 hm (by kernel_rfl)
         have hb30 : zB 30 = true := mt 30 hm (by kernel_rfl)
         have e6 : zS 45 = .agg #[.int .i64 vv.1, .int .i64 vv.2.1, .bool vv.2.2] := hF.2.2.2.2.2.2.1 hb6
         have e15 : zS 54 = .bool false := hF.2.2.2.2.2.2.2.2.2.2.2.2.2.2.2.1 hb15
         have e21 : zS 60 = .bool false := hF.2.2.2.2.2.2.2.2.2.2.2.2.2.2.2.2.2.2.2.2.2.1 hb21
         have e30 : zS 68 = .pointer (some ⟨Xa, 5, none⟩) := hF.2.2.2.2.2.2.2.2.2.2.2.2.2.2.2.2.2.2.2.2.2.2.2.2.2.2.2.2.2.1 hb30
         clear hL hm
         rw [hb31] at hW
         rw [hb6] at hW
         rw [hb15] at hW
         simp only [pE]
         simp only [e6, e15, e21, e30]
         have hC := hW.2.1
         obtain ⟨_, _, c2, c3, c4, c5, c6, _, _, f2, f3, f4, f5, f6⟩ := cel_of hC
         have HWz := mkHid hW
         clear hW
         go_simp
         have hW := HWz.out
         clear HWz
         exact hK.out _ _ ⟨fun zj => if zj = 30 then true else if zj = 21 then true else if zj = 15 then true else if zj = 6 then true else if zj = 31 then true else zB zj, fun zd => if zd = 68 then .pointer (some ⟨Xa, 5, none⟩) else if zd = 60 then .bool false else if zd = 54 then .bool false else if zd = 45 then .agg #[.int .i64 vv.1, .int .i64 vv.2.1, .bool vv.2.2] else zS zd, by simp [hb6, hb15, hb21, hb30], by kernel_rfl, ⟨hF.1, hF.2.1, hF.2.2.1, hF.2.2.2.1, hF.2.2.2.2.1, hF.2.2.2.2.2.1, fun _ => rfl, hF.2.2.2.2.2.2.2.1, hF.2.2.2.2.2.2.2.2.1, hF.2.2.2.2.2.2.2.2.2.1, hF.2.2.2.2.2.2.2.2.2.2.1, hF.2.2.2.2.2.2.2.2.2.2.2.1, hF.2.2.2.2.2.2.2.2.2.2.2.2.1, hF.2.2.2.2.2.2.2.2.2.2.2.2.2.1, hF.2.2.2.2.2.2.2.2.2.2.2.2.2.2.1, fun _ => rfl, hF.2.2.2.2.2.2.2.2.2.2.2.2.2.2.2.2.1, hF.2.2.2.2.2.2.2.2.2.2.2.2.2.2.2.2.2.1, hF.2.2.2.2.2.2.2.2.2.2.2.2.2.2.2.2.2.2.1, hF.2.2.2.2.2.2.2.2.2.2.2.2.2.2.2.2.2.2.2.1, hF.2.2.2.2.2.2.2.2.2.2.2.2.2.2.2.2.2.2.2.2.1, fun _ => rfl, hF.2.2.2.2.2.2.2.2.2.2.2.2.2.2.2.2.2.2.2.2.2.2.1, hF.2.2.2.2.2.2.2.2.2.2.2.2.2.2.2.2.2.2.2.2.2.2.2.1, hF.2.2.2.2.2.2.2.2.2.2.2.2.2.2.2.2.2.2.2.2.2.2.2.2.1, hF.2.2.2.2.2.2.2.2.2.2.2.2.2.2.2.2.2.2.2.2.2.2.2.2.2.1, hF.2.2.2.2.2.2.2.2.2.2.2.2.2.2.2.2.2.2.2.2.2.2.2.2.2.2.1, hF.2.2.2.2.2.2.2.2.2.2.2.2.2.2.2.2.2.2.2.2.2.2.2.2.2.2.2.1, hF.2.2.2.2.2.2.2.2.2.2.2.2.2.2.2.2.2.2.2.2.2.2.2.2.2.2.2.2.1, fun _ => rfl, hF.2.2.2.2.2.2.2.2.2.2.2.2.2.2.2.2.2.2.2.2.2.2.2.2.2.2.2.2.2.2.1, hF.2.2.2.2.2.2.2.2.2.2.2.2.2.2.2.2.2.2.2.2.2.2.2.2.2.2.2.2.2.2.2⟩, ⟨(hW.1.trans (Only.set _ _ _ _)), by rw [(heap_set_self hW.2.1 _ _)]; rfl, hW.2.2.1, fun _ => ⟨rfl, rfl⟩, hW.2.2.2.2⟩⟩
        refine StepsI.cons rfl ?_ ?_
        ·rintro L zA va ⟨zB, zS, rfl, rfl, hF, hW⟩ hL hm K hK
         have hb32 : zB 32 = false := by simpa using hL
         have hb2 : zB 2 = true := mt 2 hm (by kernel_rfl)
         have e2 : zS 41 = .pointer (some ⟨Xa, 0, none⟩) := hF.2.2.1 hb2
         clear hL hm
         simp only [pE]
         simp only [e2]
         have HWz := mkHid hW
         clear hW
         go_simp
         have hW := HWz.out
         clear HWz
         exact hK.out _ _ ⟨fun zj => if zj = 2 then true else if zj = 32 then true else zB zj, fun zd => if zd = 69 then .pointer (some ⟨Xa, 0, none⟩) else if zd = 41 then .pointer (some ⟨Xa, 0, none⟩) else zS zd, by simp [hb2], by kernel_rfl, ⟨hF.1, hF.2.1, fun _ => rfl, hF.2.2.2.1, hF.2.2.2.2.1, hF.2.2.2.2.2.1, hF.2.2.2.2.2.2.1, hF.2.2.2.2.2.2.2.1, hF.2.2.2.2.2.2.2.2.1, hF.2.2.2.2.2.2.2.2.2.1, hF.2.2.2.2.2.2.2.2.2.2.1, hF.2.2.2.2.2.2.2.2.2.2.2.1, hF.2.2.2.2.2.2.2.2.2.2.2.2.1, hF.2.2.2.2.2.2.2.2.2.2.2.2.2.1, hF.2.2.2.2.2.2.2.2.2.2.2.2.2.2.1, hF.2.2.2.2.2.2.2.2.2.2.2.2.2.2.2.1, hF.2.2.2.2.2.2.2.2.2.2.2.2.2.2.2.2.1, hF.2.2.2.2.2.2.2.2.2.2.2.2.2.2.2.2.2.1, hF.2.2.2.2.2.2.2.2.2.2.2.2.2.2.2.2.2.2.1, hF.2.2.2.2.2.2.2.2.2.2.2.2.2.2.2.2.2.2.2.1, hF.2.2.2.2.2.2.2.2.2.2.2.2.2.2.2.2.2.2.2.2.1, hF.2.2.2.2.2.2.2.2.2.2.2.2.2.2.2.2.2.2.2.2.2.1, hF.2.2.2.2.2.2.2.2.2.2.2.2.2.2.2.2.2.2.2.2.2.2.1, hF.2.2.2.2.2.2.2.2.2.2.2.2.2.2.2.2.2.2.2.2.2.2.2.1, hF.2.2.2.2.2.2.2.2.2.2.2.2.2.2.2.2.2.2.2.2.2.2.2.2.1, hF.2.2.2.2.2.2.2.2.2.2.2.2.2.2.2.2.2.2.2.2.2.2.2.2.2.1, hF.2.2.2.2.2.2.2.2.2.2.2.2.2.2.2.2.2.2.2.2.2.2.2.2.2.2.1, hF.2.2.2.2.2.2.2.2.2.2.2.2.2.2.2.2.2.2.2.2.2.2.2.2.2.2.2.1, hF.2.2.2.2.2.2.2.2.2.2.2.2.2.2.2.2.2.2.2.2.2.2.2.2.2.2.2.2.1, hF.2.2.2.2.2.2.2.2.2.2.2.2.2.2.2.2.2.2.2.2.2.2.2.2.2.2.2.2.2.1, fun _ => rfl, hF.2.2.2.2.2.2.2.2.2.2.2.2.2.2.2.2.2.2.2.2.2.2.2.2.2.2.2.2.2.2.2⟩, hW⟩
        refine StepsI.cons rfl ?_ ?_
        ·rintro L zA va ⟨zB, zS, rfl, rfl, hF, hW⟩ hL hm K hK
         have hb33 : zB 33 = false := by simpa using hL
         have hb32 : zB 32 = true := mt 32 hm (by kernel_rfl)
         have e32 : zS 69 = .pointer (some ⟨Xa, 0, none⟩) := hF.2.2.2.2.2.2.2.2.2.2.2.2.2.2.2.2.2.2.2.2.2.2.2.2.2.2.2.2.2.2.1 hb32
         clear hL hm
         simp only [pE]
         simp only [e32]
         have HWz := mkHid hW
         clear hW
         go_simp
         have hW := HWz.out
         clear HWz
         exact hK.out _ _ ⟨fun zj => if zj = 32 then true else if zj = 33 then true else zB zj, fun zd => if zd = 70 then .pointer (some ⟨Xa, 6, none⟩) else if zd = 69 then .pointer (some ⟨Xa, 0, none⟩) else zS zd, by simp [hb32], by kernel_rfl, ⟨hF.1, hF.2.1, hF.2.2.1, hF.2.2.2.1, hF.2.2.2.2.1, hF.2.2.2.2.2.1, hF.2.2.2.2.2.2.1, hF.2.2.2.2.2.2.2.1, hF.2.2.2.2.2.2.2.2.1, hF.2.2.2.2.2.2.2.2.2.1, hF.2.2.2.2.2.2.2.2.2.2.1, hF.2.2.2.2.2.2.2.2.2.2.2.1, hF.2.2.2.2.2.2.2.2.2.2.2.2.1, hF.2.2.2.2.2.2.2.2.2.2.2.2.2.1, hF.2.2.2.2.2.2.2.2.2.2.2.2.2.2.1, hF.2.2.2.2.2.2.2.2.2.2.2.2.2.2.2.1, hF.2.2.2.2.2.2.2.2.2.2.2.2.2.2.2.2.1, hF.2.2.2.2.2.2.2.2.2.2.2.2.2.2.2.2.2.1, hF.2.2.2.2.2.2.2.2.2.2.2.2.2.2.2.2.2.2.1, hF.2.2.2.2.2.2.2.2.2.2.2.2.2.2.2.2.2.2.2.1, hF.2.2.2.2.2.2.2.2.2.2.2.2.2.2.2.2.2.2.2.2.1, hF.2.2.2.2.2.2.2.2.2.2.2.2.2.2.2.2.2.2.2.2.2.1, hF.2.2.2.2.2.2.2.2.2.2.2.2.2.2.2.2.2.2.2.2.2.2.1, hF.2.2.2.2.2.2.2.2.2.2.2.2.2.2.2.2.2.2.2.2.2.2.2.1, hF.2.2.2.2.2.2.2.2.2.2.2.2.2.2.2.2.2.2.2.2.2.2.2.2.1, hF.2.2.2.2.2.2.2.2.2.2.2.2.2.2.2.2.2.2.2.2.2.2.2.2.2.1, hF.2.2.2.2.2.2.2.2.2.2.2.2.2.2.2.2.2.2.2.2.2.2.2.2.2.2.1, hF.2.2.2.2.2.2.2.2.2.2.2.2.2.2.2.2.2.2.2.2.2.2.2.2.2.2.2.1, hF.2.2.2.2.2.2.2.2.2.2.2.2.2.2.2.2.2.2.2.2.2.2.2.2.2.2.2.2.1, hF.2.2.2.2.2.2.2.2.2.2.2.2.2.2.2.2.2.2.2.2.2.2.2.2.2.2.2.2.2.1, fun _ => rfl, fun _ => rfl⟩, hW⟩
        refine StepsI.cons rfl ?_ ?_
        ·rintro L zA va ⟨zB, zS, rfl, rfl, hF, hW⟩ hL hm K hK
         have hb34 : zB 34 = false := by simpa using hL
         have hb6 : zB 6 = true := mt 6 hm (by kernel_rfl)
         have hb15 : zB 15 = true := mt 15 hm (by kernel_rfl)
         have hb25 : zB 25 = true := mt 25 hm (by kernel_rfl)
         have hb33 : zB 33 = true := mt 33 hm (by kernel_rfl)
         have e6 : zS 45 = .agg #[.int .i64 vv.1, .int .i64 vv.2.1, .bool vv.2.2] := hF.2.2.2.2.2.2.1 hb6
         have e15 : zS 54 = .bool false := hF.2.2.2.2.2.2.2.2.2.2.2.2.2.2.2.1 hb15
         have e25 : zS 64 = .pointer pp := hF.2.2.2.2.2.2.2.2.2.2.2.2.2.2.2.2.2.2.2.2.2.2.2.2.2.1 hb25
         have e33 : zS 70 = .pointer (some ⟨Xa, 6, none⟩) := hF.2.2.2.2.2.2.2.2.2.2.2.2.2.2.2.2.2.2.2.2.2.2.2.2.2.2.2.2.2.2.2 hb33
         clear hL hm
         rw [hb34] at hW
         rw [hb6] at hW
         rw [hb15] at hW
         simp only [pE]
         simp only [e6, e15, e25, e33]
         have hC := hW.2.1
         obtain ⟨_, _, c2, c3, c4, c5, c6, _, _, f2, f3, f4, f5, f6⟩ := cel_of hC
         have HWz := mkHid hW
         clear hW
         go_simp
         have hW := HWz.out
         clear HWz
         exact hK.out _ _ ⟨fun zj => if zj = 33 then true else if zj = 25 then true else if zj = 15 then true else if zj = 6 then true else if zj = 34 then true else zB zj, fun zd => if zd = 70 then .pointer (some ⟨Xa, 6, none⟩) else if zd = 64 then .pointer pp else if zd = 54 then .bool false else if zd = 45 then .agg #[.int .i64 vv.1, .int .i64 vv.2.1, .bool vv.2.2] else zS zd, by simp [hb6, hb15, hb25, hb33], by kernel_rfl, ⟨hF.1, hF.2.1, hF.2.2.1, hF.2.2.2.1, hF.2.2.2.2.1, hF.2.2.2.2.2.1, fun _ => rfl, hF.2.2.2.2.2.2.2.1, hF.2.2.2.2.2.2.2.2.1, hF.2.2.2.2.2.2.2.2.2.1, hF.2.2.2.2.2.2.2.2.2.2.1, hF.2.2.2.2.2.2.2.2.2.2.2.1, hF.2.2.2.2.2.2.2.2.2.2.2.2.1, hF.2.2.2.2.2.2.2.2.2.2.2.2.2.1, hF.2.2.2.2.2.2.2.2.2.2.2.2.2.2.1, fun _ => rfl, hF.2.2.2.2.2.2.2.2.2.2.2.2.2.2.2.2.1, hF.2.2.2.2.2.2.2.2.2.2.2.2.2.2.2.2.2.1, hF.2.2.2.2.2.2.2.2.2.2.2.2.2.2.2.2.2.2.1, hF.2.2.2.2.2.2.2.2.2.2.2.2.2.2.2.2.2.2.2.1, hF.2.2.2.2.2.2.2.2.2.2.2.2.2.2.2.2.2.2.2.2.1, hF.2.2.2.2.2.2.2.2.2.2.2.2.2.2.2.2.2.2.2.2.2.1, hF.2.2.2.2.2.2.2.2.2.2.2.2.2.2.2.2.2.2.2.2.2.2.1, hF.2.2.2.2.2.2.2.2.2.2.2.2.2.2.2.2.2.2.2.2.2.2.2.1, hF.2.2.2.2.2.2.2.2.2.2.2.2.2.2.2.2.2.2.2.2.2.2.2.2.1, fun _ => rfl, hF.2.2.2.2.2.2.2.2.2.2.2.2.2.2.2.2.2.2.2.2.2.2.2.2.2.2.1, hF.2.2.2.2.2.2.2.2.2.2.2.2.2.2.2.2.2.2.2.2.2.2.2.2.2.2.2.1, hF.2.2.2.2.2.2.2.2.2.2.2.2.2.2.2.2.2.2.2.2.2.2.2.2.2.2.2.2.1, hF.2.2.2.2.2.2.2.2.2.2.2.2.2.2.2.2.2.2.2.2.2.2.2.2.2.2.2.2.2.1, hF.2.2.2.2.2.2.2.2.2.2.2.2.2.2.2.2.2.2.2.2.2.2.2.2.2.2.2.2.2.2.1, fun _ => rfl⟩, ⟨(hW.1.trans (Only.set _ _ _ _)), by rw [(heap_set_self hW.2.1 _ _)]; rfl, hW.2.2.1, hW.2.2.2.1, fun _ => ⟨rfl, rfl⟩⟩⟩
        exact StepsI.nil (by kernel_rfl)
       ·rintro L zA va ⟨zB, zS, rfl, rfl, hF, hW⟩ hr
        have hu := all_up (by kernel_rfl) (N := 35) (by kernel_rfl) hr
        have hb0 : zB 0 = true := by simpa using hu 0 (by decide)
        have hb1 : zB 1 = true := by simpa using hu 1 (by decide)
        have hb2 : zB 2 = true := by simpa using hu 2 (by decide)
        have hb3 : zB 3 = true := by simpa using hu 3 (by decide)
        have hb4 : zB 4 = true := by simpa using hu 4 (by decide)
        have hb5 : zB 5 = true := by simpa using hu 5 (by decide)
        have hb6 : zB 6 = true := by simpa using hu 6 (by decide)
        have hb7 : zB 7 = true := by simpa using hu 7 (by decide)
        have hb8 : zB 8 = true := by simpa using hu 8 (by decide)
        have hb9 : zB 9 = true := by simpa using hu 9 (by decide)
        have hb10 : zB 10 = true := by simpa using hu 10 (by decide)
        have hb11 : zB 11 = true := by simpa using hu 11 (by decide)
        have hb12 : zB 12 = true := by simpa using hu 12 (by decide)
        have hb13 : zB 13 = true := by simpa using hu 13 (by decide)
        have hb14 : zB 14 = true := by simpa using hu 14 (by decide)
        have hb15 : zB 15 = true := by simpa using hu 15 (by decide)
        have hb16 : zB 16 = true := by simpa using hu 16 (by decide)
        have hb17 : zB 17 = true := by simpa using hu 17 (by decide)
        have hb18 : zB 18 = true := by simpa using hu 18 (by decide)
        have hb19 : zB 19 = true := by simpa using hu 19 (by decide)
        have hb20 : zB 20 = true := by simpa using hu 20 (by decide)
        have hb21 : zB 21 = true := by simpa using hu 21 (by decide)
        have hb22 : zB 22 = true := by simpa using hu 22 (by decide)
        have hb23 : zB 23 = true := by simpa using hu 23 (by decide)
        have hb24 : zB 24 = true := by simpa using hu 24 (by decide)
        have hb25 : zB 25 = true := by simpa using hu 25 (by decide)
        have hb26 : zB 26 = true := by simpa using hu 26 (by decide)
        have hb27 : zB 27 = true := by simpa using hu 27 (by decide)
        have hb28 : zB 28 = true := by simpa using hu 28 (by decide)
        have hb29 : zB 29 = true := by simpa using hu 29 (by decide)
        have hb30 : zB 30 = true := by simpa using hu 30 (by decide)
        have hb31 : zB 31 = true := by simpa using hu 31 (by decide)
        have hb32 : zB 32 = true := by simpa using hu 32 (by decide)
        have hb33 : zB 33 = true := by simpa using hu 33 (by decide)
        have hb34 : zB 34 = true := by simpa using hu 34 (by decide)
        have e0 : zS 39 = .pointer (some ⟨Xa, 0, none⟩) := hF.1 hb0
        have e1 : zS 40 = .pointer (some ⟨Xa, 0, none⟩) := hF.2.1 hb1
        have e2 : zS 41 = .pointer (some ⟨Xa, 0, none⟩) := hF.2.2.1 hb2
        have e3 : zS 42 = .pointer (some ⟨Xa, 0, none⟩) := hF.2.2.2.1 hb3
        have e4 : zS 43 = .pointer (some ⟨Xa, 0, none⟩) := hF.2.2.2.2.1 hb4
        have e5 : zS 44 = .pointer (some ⟨Xa, 2, none⟩) := hF.2.2.2.2.2.1 hb5
        have e6 : zS 45 = .agg #[.int .i64 vv.1, .int .i64 vv.2.1, .bool vv.2.2] := hF.2.2.2.2.2.2.1 hb6
        have e7 : zS 46 = .pointer (some ⟨Xn, 0, none⟩) := hF.2.2.2.2.2.2.2.1 hb7
        have e8 : zS 47 = .pointer (some ⟨Xn, 0, none⟩) := hF.2.2.2.2.2.2.2.2.1 hb8
        have e9 : zS 48 = .pointer (some ⟨Xn, 2, none⟩) := hF.2.2.2.2.2.2.2.2.2.1 hb9
        have e10 : zS 49 = .agg #[.int .i64 vn.1, .int .i64 vn.2.1, .bool vn.2.2] := hF.2.2.2.2.2.2.2.2.2.2.1 hb10
        have e11 : zS 50 = .agg #[.int .i64 vj.1, .int .i64 vj.2.1, .bool vj.2.2] := hF.2.2.2.2.2.2.2.2.2.2.2.1 hb11
        have e12 : zS 51 = .pointer (some ⟨Xa, 0, none⟩) := hF.2.2.2.2.2.2.2.2.2.2.2.2.1 hb12
        have e13 : zS 52 = .pointer (some ⟨Xa, 0, none⟩) := hF.2.2.2.2.2.2.2.2.2.2.2.2.2.1 hb13
        have e14 : zS 53 = .pointer (some ⟨Xa, 5, none⟩) := hF.2.2.2.2.2.2.2.2.2.2.2.2.2.2.1 hb14
        have e15 : zS 54 = .bool false := hF.2.2.2.2.2.2.2.2.2.2.2.2.2.2.2.1 hb15
        have e16 : zS 55 = .bool false := hF.2.2.2.2.2.2.2.2.2.2.2.2.2.2.2.2.1 hb16
        have e17 : zS 56 = undef := hF.2.2.2.2.2.2.2.2.2.2.2.2.2.2.2.2.2.1 hb17
        have e18 : zS 57 = undef := hF.2.2.2.2.2.2.2.2.2.2.2.2.2.2.2.2.2.2.1 hb18
        have e19 : zS 58 = undef := hF.2.2.2.2.2.2.2.2.2.2.2.2.2.2.2.2.2.2.2.1 hb19
        have e20 : zS 59 = undef := hF.2.2.2.2.2.2.2.2.2.2.2.2.2.2.2.2.2.2.2.2.1 hb20
        have e21 : zS 60 = .bool false := hF.2.2.2.2.2.2.2.2.2.2.2.2.2.2.2.2.2.2.2.2.2.1 hb21
        have e22 : zS 61 = .pointer (some ⟨Xn, 0, none⟩) := hF.2.2.2.2.2.2.2.2.2.2.2.2.2.2.2.2.2.2.2.2.2.2.1 hb22
        have e23 : zS 62 = .pointer (some ⟨Xn, 0, none⟩) := hF.2.2.2.2.2.2.2.2.2.2.2.2.2.2.2.2.2.2.2.2.2.2.2.1 hb23
        have e24 : zS 63 = .pointer (some ⟨Xn, 6, none⟩) := hF.2.2.2.2.2.2.2.2.2.2.2.2.2.2.2.2.2.2.2.2.2.2.2.2.1 hb24
        have e25 : zS 64 = .pointer pp := hF.2.2.2.2.2.2.2.2.2.2.2.2.2.2.2.2.2.2.2.2.2.2.2.2.2.1 hb25
        have e26 : zS 65 = .pointer (some ⟨Xa, 0, none⟩) := hF.2.2.2.2.2.2.2.2.2.2.2.2.2.2.2.2.2.2.2.2.2.2.2.2.2.2.1 hb26
        have e27 : zS 66 = .pointer (some ⟨Xa, 2, none⟩) := hF.2.2.2.2.2.2.2.2.2.2.2.2.2.2.2.2.2.2.2.2.2.2.2.2.2.2.2.1 hb27
        have e29 : zS 67 = .pointer (some ⟨Xa, 0, none⟩) := hF.2.2.2.2.2.2.2.2.2.2.2.2.2.2.2.2.2.2.2.2.2.2.2.2.2.2.2.2.1 hb29
        have e30 : zS 68 = .pointer (some ⟨Xa, 5, none⟩) := hF.2.2.2.2.2.2.2.2.2.2.2.2.2.2.2.2.2.2.2.2.2.2.2.2.2.2.2.2.2.1 hb30
        have e32 : zS 69 = .pointer (some ⟨Xa, 0, none⟩) := hF.2.2.2.2.2.2.2.2.2.2.2.2.2.2.2.2.2.2.2.2.2.2.2.2.2.2.2.2.2.2.1 hb32
        have e33 : zS 70 = .pointer (some ⟨Xa, 6, none⟩) := hF.2.2.2.2.2.2.2.2.2.2.2.2.2.2.2.2.2.2.2.2.2.2.2.2.2.2.2.2.2.2.2 hb33
        rw [hb6] at hW
        rw [hb15] at hW
        rw [hb28] at hW
        rw [hb31] at hW
        rw [hb34] at hW
        clear hu hr hF
        simp only [pE]
        simp only [e0, e1, e2, e3, e4, e5, e6, e7, e8, e9, e10, e11, e12, e13, e14, e15, e16, e17, e18, e19, e20, e21, e22, e23, e24, e25, e26, e27, e29, e30, e32, e33]
        clear e0 e1 e2 e3 e4 e5 e6 e7 e8 e9 e10 e11 e12 e13 e14 e15 e16 e17 e18 e19 e20 e21 e22 e23 e24 e25 e26 e27 e29 e30 e32 e33
        clear hb0 hb1 hb2 hb3 hb4 hb5 hb6 hb7 hb8 hb9 hb10 hb11 hb12 hb13 hb14 hb15 hb16 hb17 hb18 hb19 hb20 hb21 hb22 hb23 hb24 hb25 hb26 hb27 hb28 hb29 hb30 hb31 hb32 hb33 hb34
        clear zB zS
        have hO := hW.1
        have hH := hW.2.1
        clear hW
        simp only [sel] at hH
        have HF := mkHid (HTT.out va _ hO hH (by simp))
        clear hO hH hX0 hnext HTT
        go_wp2
        go_roundg R.length
        case measure => exact hgR
        case rel => exact ⟨P1, Xa, _, R, rfl, Nat.le_refl _, HF.out⟩
      ·rw [hmm] at hX0 HTT
       clear hmm
       go_wp2_with fail
       refine wp_region_inv2 (fun zA0 L zA va => ∃ (zB : Nat → Bool) (zS : Nat → Value), L = #[zB 0, zB 1, zB 2, zB 3, zB 4, zB 5, zB 6, zB 7, zB 8, zB 9, zB 10, zB 11, zB 12, zB 13, zB 14, zB 15, zB 16, zB 17, zB 18, zB 19, zB 20, zB 21, zB 22, zB 23, zB 24, zB 25, zB 26, zB 27, zB 28, zB 29, zB 30, zB 31, zB 32, zB 33, zB 34] ∧ zA = puts zA0 [(39, zS 39), (40, zS 40), (41, zS 41), (42, zS 42), (43, zS 43), (44, zS 44), (45, zS 45), (46, zS 46), (47, zS 47), (48, zS 48), (49, zS 49), (50, zS 50), (51, zS 51), (52, zS 52), (53, zS 53), (54, zS 54), (55, zS 55), (56, zS 56), (57, zS 57), (58, zS 58), (59, zS 59), (60, zS 60), (61, zS 61), (62, zS 62), (63, zS 63), (64, zS 64), (65, zS 65), (66, zS 66), (67, zS 67), (68, zS 68), (69, zS 69), (70, zS 70)] ∧ ((zB 0 = true → zS 39 = .pointer (some ⟨Xa, 0, none⟩)) ∧ (zB 1 = true → zS 40 = .pointer (some ⟨Xa, 0, none⟩)) ∧ (zB 2 = true → zS 41 = .pointer (some ⟨Xa, 0, none⟩)) ∧ (zB 3 = true → zS 42 = .pointer (some ⟨Xa, 0, none⟩)) ∧ (zB 4 = true → zS 43 = .pointer (some ⟨Xa, 0, none⟩)) ∧ (zB 5 = true → zS 44 = .pointer (some ⟨Xa, 2, none⟩)) ∧ (zB 6 = true → zS 45 = .agg #[.int .i64 vv.1, .int .i64 vv.2.1, .bool vv.2.2]) ∧ (zB 7 = true → zS 46 = .pointer (some ⟨Xn, 0, none⟩)) ∧ (zB 8 = true → zS 47 = .pointer (some ⟨Xn, 0, none⟩)) ∧ (zB 9 = true → zS 48 = .pointer (some ⟨Xn, 2, none⟩)) ∧ (zB 10 = true → zS 49 = .agg #[.int .i64 vn.1, .int .i64 vn.2.1, .bool vn.2.2]) ∧ (zB 11 = true → zS 50 = .agg #[.int .i64 vj.1, .int .i64 vj.2.1, .bool vj.2.2]) ∧ (zB 12 = true → zS 51 = .pointer (some ⟨Xa, 0, none⟩)) ∧ (zB 13 = true → zS 52 = .pointer (some ⟨Xa, 0, none⟩)) ∧ (zB 14 = true → zS 53 = .pointer (some ⟨Xa, 5, none⟩)) ∧ (zB 15 = true → zS 54 = .bool true) ∧ (zB 16 = true → zS 55 = .bool true) ∧ (zB 17 = true → zS 56 = .pointer (some ⟨Xn, 0, none⟩)) ∧ (zB 18 = true → zS 57 = .pointer (some ⟨Xn, 0, none⟩)) ∧ (zB 19 = true → zS 58 = .pointer (some ⟨Xn, 5, none⟩)) ∧ (zB 20 = true → zS 59 = .bool mn) ∧ (zB 21 = true → zS 60 = .bool mn) ∧ (zB 22 = true → zS 61 = .pointer (some ⟨Xn, 0, none⟩)) ∧ (zB 23 = true → zS 62 = .pointer (some ⟨Xn, 0, none⟩)) ∧ (zB 24 = true → zS 63 = .pointer (some ⟨Xn, 6, none⟩)) ∧ (zB 25 = true → zS 64 = .pointer pp) ∧ (zB 26 = true → zS 65 = .pointer (some ⟨Xa, 0, none⟩)) ∧ (zB 27 = true → zS 66 = .pointer (some ⟨Xa, 2, none⟩)) ∧ (zB 29 = true → zS 67 = .pointer (some ⟨Xa, 0, none⟩)) ∧ (zB 30 = true → zS 68 = .pointer (some ⟨Xa, 5, none⟩)) ∧ (zB 32 = true → zS 69 = .pointer (some ⟨Xa, 0, none⟩)) ∧ (zB 33 = true → zS 70 = .pointer (some ⟨Xa, 6, none⟩))) ∧ (Only Xa w2 va) ∧ (va.heap[Xa]? = some (.cells (lkC s0 (sel (zB 28) vj vv) (sel (zB 31) mn true) (sel (zB 34) pp (some ⟨Xn, 0, none⟩))) 109 (0, 0))) ∧ ((zB 28) = true → (zB 6) = true ∧ (zB 15) = true) ∧ ((zB 31) = true → (zB 6) = true ∧ (zB 15) = true) ∧ ((zB 34) = true → (zB 6) = true ∧ (zB 15) = true)) (by kernel_rfl) ?_ ?_ ?_
       ·exact ⟨fun _ => false, fun zd => if zd = 70 then u70 else if zd = 69 then u69 else if zd = 68 then u68 else if zd = 67 then u67 else if zd = 66 then u66 else if zd = 65 then u65 else if zd = 64 then u64 else if zd = 63 then u63 else if zd = 62 then u62 else if zd = 61 then u61 else if zd = 60 then u60 else if zd = 59 then u59 else if zd = 58 then u58 else if zd = 57 then u57 else if zd = 56 then u56 else if zd = 55 then u55 else if zd = 54 then u54 else if zd = 53 then u53 else if zd = 52 then u52 else if zd = 51 then u51 else if zd = 50 then u50 else if zd = 49 then u49 else if zd = 48 then u48 else if zd = 47 then u47 else if zd = 46 then u46 else if zd = 45 then u45 else if zd = 44 then u44 else if zd = 43 then u43 else if zd = 42 then u42 else if zd = 41 then u41 else if zd = 40 then u40 else if zd = 39 then u39 else undef, rfl, by kernel_rfl, ⟨fun e => ft e, fun e => ft e, fun e => ft e, fun e => ft e, fun e => ft e, fun e => ft e, fun e => ft e, fun e => ft e, fun e => ft e, fun e => ft e, fun e => ft e, fun e => ft e, fun e => ft e, fun e => ft e, fun e => ft e, fun e => ft e, fun e => ft e, fun e => ft e, fun e => ft e, fun e => ft e, fun e => ft e, fun e => ft e, fun e => ft e, fun e => ft e, fun e => ft e, fun e => ft e, fun e => ft e, fun e => ft e, fun e => ft e, fun e => ft e, fun e => ft e, fun e => ft e⟩, ⟨(Only.of (Below.refl _ _).drew), hX0, fun e => ft e, fun e => ft e, fun e => ft e⟩⟩
       ·refine StepsI.cons rfl ?_ ?_
        ·rintro L zA va ⟨zB, zS, rfl, rfl, hF, hW⟩ hL hm K hK
         have hb0 : zB 0 = false := by simpa using hL
         clear hL hm
         simp only [pE]
         have HWz := mkHid hW
         clear hW
         go_simp
         have hW := HWz.out
         clear HWz
         exact hK.out _ _ ⟨fun zj => if zj = 0 then true else zB zj, fun zd => if zd = 39 then .pointer (some ⟨Xa, 0, none⟩) else zS zd, rfl, by kernel_rfl, ⟨fun _ => rfl, hF.2.1, hF.2.2.1, hF.2.2.2.1, hF.2.2.2.2.1, hF.2.2.2.2.2.1, hF.2.2.2.2.2.2.1, hF.2.2.2.2.2.2.2.1, hF.2.2.2.2.2.2.2.2.1, hF.2.2.2.2.2.2.2.2.2.1, hF.2.2.2.2.2.2.2.2.2.2.1, hF.2.2.2.2.2.2.2.2.2.2.2.1, hF.2.2.2.2.2.2.2.2.2.2.2.2.1, hF.2.2.2.2.2.2.2.2.2.2.2.2.2.1, hF.2.2.2.2.2.2.2.2.2.2.2.2.2.2.1, hF.2.2.2.2.2.2.2.2.2.2.2.2.2.2.2.1, hF.2.2.2.2.2.2.2.2.2.2.2.2.2.2.2.2.1, hF.2.2.2.2.2.2.2.2.2.2.2.2.2.2.2.2.2.1, hF.2.2.2.2.2.2.2.2.2.2.2.2.2.2.2.2.2.2.1, hF.2.2.2.2.2.2.2.2.2.2.2.2.2.2.2.2.2.2.2.1, hF.2.2.2.2.2.2.2.2.2.2.2.2.2.2.2.2.2.2.2.2.1, hF.2.2.2.2.2.2.2.2.2.2.2.2.2.2.2.2.2.2.2.2.2.1, hF.2.2.2.2.2.2.2.2.2.2.2.2.2.2.2.2.2.2.2.2.2.2.1, hF.2.2.2.2.2.2.2.2.2.2.2.2.2.2.2.2.2.2.2.2.2.2.2.1, hF.2.2.2.2.2.2.2.2.2.2.2.2.2.2.2.2.2.2.2.2.2.2.2.2.1, hF.2.2.2.2.2.2.2.2.2.2.2.2.2.2.2.2.2.2.2.2.2.2.2.2.2.1, hF.2.2.2.2.2.2.2.2.2.2.2.2.2.2.2.2.2.2.2.2.2.2.2.2.2.2.1, hF.2.2.2.2.2.2.2.2.2.2.2.2.2.2.2.2.2.2.2.2.2.2.2.2.2.2.2.1, hF.2.2.2.2.2.2.2.2.2.2.2.2.2.2.2.2.2.2.2.2.2.2.2.2.2.2.2.2.1, hF.2.2.2.2.2.2.2.2.2.2.2.2.2.2.2.2.2.2.2.2.2.2.2.2.2.2.2.2.2.1, hF.2.2.2.2.2.2.2.2.2.2.2.2.2.2.2.2.2.2.2.2.2.2.2.2.2.2.2.2.2.2.1, hF.2.2.2.2.2.2.2.2.2.2.2.2.2.2.2.2.2.2.2.2.2.2.2.2.2.2.2.2.2.2.2⟩, hW⟩
        refine StepsI.cons rfl ?_ ?_
        ·rintro L zA va ⟨zB, zS, rfl, rfl, hF, hW⟩ hL hm K hK
         have hb1 : zB 1 = false := by simpa using hL
         clear hL hm
         simp only [pE]
         have HWz := mkHid hW
         clear hW
         go_simp
         have hW := HWz.out
         clear HWz
         exact hK.out _ _ ⟨fun zj => if zj = 1 then true else zB zj, fun zd => if zd = 40 then .pointer (some ⟨Xa, 0, none⟩) else zS zd, rfl, by kernel_rfl, ⟨hF.1, fun _ => rfl, hF.2.2.1, hF.2.2.2.1, hF.2.2.2.2.1, hF.2.2.2.2.2.1, hF.2.2.2.2.2.2.1, hF.2.2.2.2.2.2.2.1, hF.2.2.2.2.2.2.2.2.1, hF.2.2.2.2.2.2.2.2.2.1, hF.2.2.2.2.2.2.2.2.2.2.1, hF.2.2.2.2.2.2.2.2.2.2.2.1, hF.2.2.2.2.2.2.2.2.2.2.2.2.1, hF.2.2.2.2.2.2.2.2.2.2.2.2.2.1, hF.2.2.2.2.2.2.2.2.2.2.2.2.2.2.1, hF.2.2.2.2.2.2.2.2.2.2.2.2.2.2.2.1, hF.2.2.2.2.2.2.2.2.2.2.2.2.2.2.2.2.1, hF.2.2.2.2.2.2.2.2.2.2.2.2.2.2.2.2.2.1, hF.2.2.2.2.2.2.2.2.2.2.2.2.2.2.2.2.2.2.1, hF.2.2.2.2.2.2.2.2.2.2.2.2.2.2.2.2.2.2.2.1, hF.2.2.2.2.2.2.2.2.2.2.2.2.2.2.2.2.2.2.2.2.1, hF.2.2.2.2.2.2.2.2.2.2.2.2.2.2.2.2.2.2.2.2.2.1, hF.2.2.2.2.2.2.2.2.2.2.2.2.2.2.2.2.2.2.2.2.2.2.1, hF.2.2.2.2.2.2.2.2.2.2.2.2.2.2.2.2.2.2.2.2.2.2.2.1, hF.2.2.2.2.2.2.2.2.2.2.2.2.2.2.2.2.2.2.2.2.2.2.2.2.1, hF.2.2.2.2.2.2.2.2.2.2.2.2.2.2.2.2.2.2.2.2.2.2.2.2.2.1, hF.2.2.2.2.2.2.2.2.2.2.2.2.2.2.2.2.2.2.2.2.2.2.2.2.2.2.1, hF.2.2.2.2.2.2.2.2.2.2.2.2.2.2.2.2.2.2.2.2.2.2.2.2.2.2.2.1, hF.2.2.2.2.2.2.2.2.2.2.2.2.2.2.2.2.2.2.2.2.2.2.2.2.2.2.2.2.1, hF.2.2.2.2.2.2.2.2.2.2.2.2.2.2.2.2.2.2.2.2.2.2.2.2.2.2.2.2.2.1, hF.2.2.2.2.2.2.2.2.2.2.2.2.2.2.2.2.2.2.2.2.2.2.2.2.2.2.2.2.2.2.1, hF.2.2.2.2.2.2.2.2.2.2.2.2.2.2.2.2.2.2.2.2.2.2.2.2.2.2.2.2.2.2.2⟩, hW⟩
        refine StepsI.cons rfl ?_ ?_
        ·rintro L zA va ⟨zB, zS, rfl, rfl, hF, hW⟩ hL hm K hK
         have hb2 : zB 2 = false := by simpa using hL
         clear hL hm
         simp only [pE]
         have HWz := mkHid hW
         clear hW
         go_simp
         have hW := HWz.out
         clear HWz
         exact hK.out _ _ ⟨fun zj => if zj = 2 then true else zB zj, fun zd => if zd = 41 then .pointer (some ⟨Xa, 0, none⟩) else zS zd, rfl, by kernel_rfl, ⟨hF.1, hF.2.1, fun _ => rfl, hF.2.2.2.1, hF.2.2.2.2.1, hF.2.2.2.2.2.1, hF.2.2.2.2.2.2.1, hF.2.2.2.2.2.2.2.1, hF.2.2.2.2.2.2.2.2.1, hF.2.2.2.2.2.2.2.2.2.1, hF.2.2.2.2.2.2.2.2.2.2.1, hF.2.2.2.2.2.2.2.2.2.2.2.1, hF.2.2.2.2.2.2.2.2.2.2.2.2.1, hF.2.2.2.2.2.2.2.2.2.2.2.2.2.1, hF.2.2.2.2.2.2.2.2.2.2.2.2.2.2.1, hF.2.2.2.2.2.2.2.2.2.2.2.2.2.2.2.1, hF.2.2.2.2.2.2.2.2.2.2.2.2.2.2.2.2.1, hF.2.2.2.2.2.2.2.2.2.2.2.2.2.2.2.2.2.1, hF.2.2.2.2.2.2.2.2.2.2.2.2.2.2.2.2.2.2.1, hF.2.2.2.2.2.2.2.2.2.2.2.2.2.2.2.2.2.2.2.1, hF.2.2.2.2.2.2.2.2.2.2.2.2.2.2.2.2.2.2.2.2.1, hF.2.2.2.2.2.2.2.2.2.2.2.2.2.2.2.2.2.2.2.2.2.1, hF.2.2.2.2.2.2.2.2.2.2.2.2.2.2.2.2.2.2.2.2.2.2.1, hF.2.2.2.2.2.2.2.2.2.2.2.2.2.2.2.2.2.2.2.2.2.2.2.1, hF.2.2.2.2.2.2.2.2.2.2.2.2.2.2.2.2.2.2.2.2.2.2.2.2.1, hF.2.2.2.2.2.2.2.2.2.2.2.2.2.2.2.2.2.2.2.2.2.2.2.2.2.1, hF.2.2.2.2.2.2.2.2.2.2.2.2.2.2.2.2.2.2.2.2.2.2.2.2.2.2.1, hF.2.2.2.2.2.2.2.2.2.2.2.2.2.2.2.2.2.2.2.2.2.2.2.2.2.2.2.1, hF.2.2.2.2.2.2.2.2.2.2.2.2.2.2.2.2.2.2.2.2.2.2.2.2.2.2.2.2.1, hF.2.2.2.2.2.2.2.2.2.2.2.2.2.2.2.2.2.2.2.2.2.2.2.2.2.2.2.2.2.1, hF.2.2.2.2.2.2.2.2.2.2.2.2.2.2.2.2.2.2.2.2.2.2.2.2.2.2.2.2.2.2.1, hF.2.2.2.2.2.2.2.2.2.2.2.2.2.2.2.2.2.2.2.2.2.2.2.2.2.2.2.2.2.2.2⟩, hW⟩
        refine StepsI.cons rfl ?_ ?_
        ·rintro L zA va ⟨zB, zS, rfl, rfl, hF, hW⟩ hL hm K hK
         have hb3 : zB 3 = false := by simpa using hL
         clear hL hm
         simp only [pE]
         have HWz := mkHid hW
         clear hW
         go_simp
         have hW := HWz.out
         clear HWz
         exact hK.out _ _ ⟨fun zj => if zj = 3 then true else zB zj, fun zd => if zd = 42 then .pointer (some ⟨Xa, 0, none⟩) else zS zd, rfl, by kernel_rfl, ⟨hF.1, hF.2.1, hF.2.2.1, fun _ => rfl, hF.2.2.2.2.1, hF.2.2.2.2.2.1, hF.2.2.2.2.2.2.1, hF.2.2.2.2.2.2.2.1, hF.2.2.2.2.2.2.2.2.1, hF.2.2.2.2.2.2.2.2.2.1, hF.2.2.2.2.2.2.2.2.2.2.1, hF.2.2.2.2.2.2.2.2.2.2.2.1, hF.2.2.2.2.2.2.2.2.2.2.2.2.1, hF.2.2.2.2.2.2.2.2.2.2.2.2.2.1, hF.2.2.2.2.2.2.2.2.2.2.2.2.2.2.1, hF.2.2.2.2.2.2.2.2.2.2.2.2.2.2.2.1, hF.2.2.2.2.2.2.2.2.2.2.2.2.2.2.2.2.1, hF.2.2.2.2.2.2.2.2.2.2.2.2.2.2.2.2.2.1, hF.2.2.2.2.2.2.2.2.2.2.2.2.2.2.2.2.2.2.1, hF.2.2.2.2.2.2.2.2.2.2.2.2.2.2.2.2.2.2.2.1, hF.2.2.2.2.2.2.2.2.2.2.2.2.2.2.2.2.2.2.2.2.1, hF.2.2.2.2.2.2.2.2.2.2.2.2.2.2.2.2.2.2.2.2.2.1, hF.2.2.2.2.2.2.2.2.2.2.2.2.2.2.2.2.2.2.2.2.2.2.1, hF.2.2.2.2.2.2.2.2.2.2.2.2.2.2.2.2.2.2.2.2.2.2.2.1, hF.2.2.2.2.2.2.2.2.2.2.2.2.2.2.2.2.2.2.2.2.2.2.2.2.1, hF.2.2.2.2.2.2.2.2.2.2.2.2.2.2.2.2.2.2.2.2.2.2.2.2.2.1, hF.2.2.2.2.2.2.2.2.2.2.2.2.2.2.2.2.2.2.2.2.2.2.2.2.2.2.1, hF.2.2.2.2.2.2.2.2.2.2.2.2.2.2.2.2.2.2.2.2.2.2.2.2.2.2.2.1, hF.2.2.2.2.2.2.2.2.2.2.2.2.2.2.2.2.2.2.2.2.2.2.2.2.2.2.2.2.1, hF.2.2.2.2.2.2.2.2.2.2.2.2.2.2.2.2.2.2.2.2.2.2.2.2.2.2.2.2.2.1, hF.2.2.2.2.2.2.2.2.2.2.2.2.2.2.2.2.2.2.2.2.2.2.2.2.2.2.2.2.2.2.1, hF.2.2.2.2.2.2.2.2.2.2.2.2.2.2.2.2.2.2.2.2.2.2.2.2.2.2.2.2.2.2.2⟩, hW⟩
        refine StepsI.cons rfl ?_ ?_
        ·rintro L zA va ⟨zB, zS, rfl, rfl, hF, hW⟩ hL hm K hK
         have hb4 : zB 4 = false := by simpa using hL
         have hb3 : zB 3 = true := mt 3 hm (by kernel_rfl)
         have e3 : zS 42 = .pointer (some ⟨Xa, 0, none⟩) := hF.2.2.2.1 hb3
         clear hL hm
         simp only [pE]
         simp only [e3]
         have HWz := mkHid hW
         clear hW
         go_simp
         have hW := HWz.out
         clear HWz
         exact hK.out _ _ ⟨fun zj => if zj = 3 then true else if zj = 4 then true else zB zj, fun zd => if zd = 43 then .pointer (some ⟨Xa, 0, none⟩) else if zd = 42 then .pointer (some ⟨Xa, 0, none⟩) else zS zd, by simp [hb3], by kernel_rfl, ⟨hF.1, hF.2.1, hF.2.2.1, fun _ => rfl, fun _ => rfl, hF.2.2.2.2.2.1, hF.2.2.2.2.2.2.1, hF.2.2.2.2.2.2.2.1, hF.2.2.2.2.2.2.2.2.1, hF.2.2.2.2.2.2.2.2.2.1, hF.2.2.2.2.2.2.2.2.2.2.1, hF.2.2.2.2.2.2.2.2.2.2.2.1, hF.2.2.2.2.2.2.2.2.2.2.2.2.1, hF.2.2.2.2.2.2.2.2.2.2.2.2.2.1, hF.2.2.2.2.2.2.2.2.2.2.2.2.2.2.1, hF.2.2.2.2.2.2.2.2.2.2.2.2.2.2.2.1, hF.2.2.2.2.2.2.2.2.2.2.2.2.2.2.2.2.1, hF.2.2.2.2.2.2.2.2.2.2.2.2.2.2.2.2.2.1, hF.2.2.2.2.2.2.2.2.2.2.2.2.2.2.2.2.2.2.1, hF.2.2.2.2.2.2.2.2.2.2.2.2.2.2.2.2.2.2.2.1, hF.2.2.2.2.2.2.2.2.2.2.2.2.2.2.2.2.2.2.2.2.1, hF.2.2.2.2.2.2.2.2.2.2.2.2.2.2.2.2.2.2.2.2.2.1, hF.2.2.2.2.2.2.2.2.2.2.2.2.2.2.2.2.2.2.2.2.2.2.1, hF.2.2.2.2.2.2.2.2.2.2.2.2.2.2.2.2.2.2.2.2.2.2.2.1, hF.2.2.2.2.2.2.2.2.2.2.2.2.2.2.2.2.2.2.2.2.2.2.2.2.1, hF.2.2.2.2.2.2.2.2.2.2.2.2.2.2.2.2.2.2.2.2.2.2.2.2.2.1, hF.2.2.2.2.2.2.2.2.2.2.2.2.2.2.2.2.2.2.2.2.2.2.2.2.2.2.1, hF.2.2.2.2.2.2.2.2.2.2.2.2.2.2.2.2.2.2.2.2.2.2.2.2.2.2.2.1, hF.2.2.2.2.2.2.2.2.2.2.2.2.2.2.2.2.2.2.2.2.2.2.2.2.2.2.2.2.1, hF.2.2.2.2.2.2.2.2.2.2.2.2.2.2.2.2.2.2.2.2.2.2.2.2.2.2.2.2.2.1, hF.2.2.2.2.2.2.2.2.2.2.2.2.2.2.2.2.2.2.2.2.2.2.2.2.2.2.2.2.2.2.1, hF.2.2.2.2.2.2.2.2.2.2.2.2.2.2.2.2.2.2.2.2.2.2.2.2.2.2.2.2.2.2.2⟩, hW⟩
        refine StepsI.cons rfl ?_ ?_
        ·rintro L zA va ⟨zB, zS, rfl, rfl, hF, hW⟩ hL hm K hK
         have hb5 : zB 5 = false := by simpa using hL
         have hb4 : zB 4 = true := mt 4 hm (by kernel_rfl)
         have e4 : zS 43 = .pointer (some ⟨Xa, 0, none⟩) := hF.2.2.2.2.1 hb4
         clear hL hm
         simp only [pE]
         simp only [e4]
         have HWz := mkHid hW
         clear hW
         go_simp
         have hW := HWz.out
         clear HWz
         exact hK.out _ _ ⟨fun zj => if zj = 4 then true else if zj = 5 then true else zB zj, fun zd => if zd = 44 then .pointer (some ⟨Xa, 2, none⟩) else if zd = 43 then .pointer (some ⟨Xa, 0, none⟩) else zS zd, by simp [hb4], by kernel_rfl, ⟨hF.1, hF.2.1, hF.2.2.1, hF.2.2.2.1, fun _ => rfl, fun _ => rfl, hF.2.2.2.2.2.2.1, hF.2.2.2.2.2.2.2.1, hF.2.2.2.2.2.2.2.2.1, hF.2.2.2.2.2.2.2.2.2.1, hF.2.2.2.2.2.2.2.2.2.2.1, hF.2.2.2.2.2.2.2.2.2.2.2.1, hF.2.2.2.2.2.2.2.2.2.2.2.2.1, hF.2.2.2.2.2.2.2.2.2.2.2.2.2.1, hF.2.2.2.2.2.2.2.2.2.2.2.2.2.2.1, hF.2.2.2.2.2.2.2.2.2.2.2.2.2.2.2.1, hF.2.2.2.2.2.2.2.2.2.2.2.2.2.2.2.2.1, hF.2.2.2.2.2.2.2.2.2.2.2.2.2.2.2.2.2.1, hF.2.2.2.2.2.2.2.2.2.2.2.2.2.2.2.2.2.2.1, hF.2.2.2.2.2.2.2.2.2.2.2.2.2.2.2.2.2.2.2.1, hF.2.2.2.2.2.2.2.2.2.2.2.2.2.2.2.2.2.2.2.2.1, hF.2.2.2.2.2.2.2.2.2.2.2.2.2.2.2.2.2.2.2.2.2.1, hF.2.2.2.2.2.2.2.2.2.2.2.2.2.2.2.2.2.2.2.2.2.2.1, hF.2.2.2.2.2.2.2.2.2.2.2.2.2.2.2.2.2.2.2.2.2.2.2.1, hF.2.2.2.2.2.2.2.2.2.2.2.2.2.2.2.2.2.2.2.2.2.2.2.2.1, hF.2.2.2.2.2.2.2.2.2.2.2.2.2.2.2.2.2.2.2.2.2.2.2.2.2.1, hF.2.2.2.2.2.2.2.2.2.2.2.2.2.2.2.2.2.2.2.2.2.2.2.2.2.2.1, hF.2.2.2.2.2.2.2.2.2.2.2.2.2.2.2.2.2.2.2.2.2.2.2.2.2.2.2.1, hF.2.2.2.2.2.2.2.2.2.2.2.2.2.2.2.2.2.2.2.2.2.2.2.2.2.2.2.2.1, hF.2.2.2.2.2.2.2.2.2.2.2.2.2.2.2.2.2.2.2.2.2.2.2.2.2.2.2.2.2.1, hF.2.2.2.2.2.2.2.2.2.2.2.2.2.2.2.2.2.2.2.2.2.2.2.2.2.2.2.2.2.2.1, hF.2.2.2.2.2.2.2.2.2.2.2.2.2.2.2.2.2.2.2.2.2.2.2.2.2.2.2.2.2.2.2⟩, hW⟩
        refine StepsI.cons rfl ?_ ?_
        ·rintro L zA va ⟨zB, zS, rfl, rfl, hF, hW⟩ hL hm K hK
         have hb6 : zB 6 = false := by simpa using hL
         have hb5 : zB 5 = true := mt 5 hm (by kernel_rfl)
         have e5 : zS 44 = .pointer (some ⟨Xa, 2, none⟩) := hF.2.2.2.2.2.1 hb5
         clear hL hm
         rw [hb6] at hW
         simp only [pE]
         simp only [e5]
         have h28 : zB 28 = false := by cases e : zB 28 with | false => rfl | true => exact ft (hW.2.2.1 e).1
         have h31 : zB 31 = false := by cases e : zB 31 with | false => rfl | true => exact ft (hW.2.2.2.1 e).1
         have h34 : zB 34 = false := by cases e : zB 34 with | false => rfl | true => exact ft (hW.2.2.2.2 e).1
         have hC := hW.2.1
         rw [h28, h31, h34] at hC
         obtain ⟨_, _, c2, c3, c4, c5, _, _, _, _, _, _, _, _⟩ := cel_of hC
         simp only [sel] at c2 c3 c4 c5
         clear hC
         have HWz := mkHid hW
         clear hW
         go_simp
         have hW := HWz.out
         clear HWz
         exact hK.out _ _ ⟨fun zj => if zj = 5 then true else if zj = 6 then true else zB zj, fun zd => if zd = 45 then .agg #[.int .i64 vv.1, .int .i64 vv.2.1, .bool vv.2.2] else if zd = 44 then .pointer (some ⟨Xa, 2, none⟩) else zS zd, by simp [hb5], by kernel_rfl, ⟨hF.1, hF.2.1, hF.2.2.1, hF.2.2.2.1, hF.2.2.2.2.1, fun _ => rfl, fun _ => rfl, hF.2.2.2.2.2.2.2.1, hF.2.2.2.2.2.2.2.2.1, hF.2.2.2.2.2.2.2.2.2.1, hF.2.2.2.2.2.2.2.2.2.2.1, hF.2.2.2.2.2.2.2.2.2.2.2.1, hF.2.2.2.2.2.2.2.2.2.2.2.2.1, hF.2.2.2.2.2.2.2.2.2.2.2.2.2.1, hF.2.2.2.2.2.2.2.2.2.2.2.2.2.2.1, hF.2.2.2.2.2.2.2.2.2.2.2.2.2.2.2.1, hF.2.2.2.2.2.2.2.2.2.2.2.2.2.2.2.2.1, hF.2.2.2.2.2.2.2.2.2.2.2.2.2.2.2.2.2.1, hF.2.2.2.2.2.2.2.2.2.2.2.2.2.2.2.2.2.2.1, hF.2.2.2.2.2.2.2.2.2.2.2.2.2.2.2.2.2.2.2.1, hF.2.2.2.2.2.2.2.2.2.2.2.2.2.2.2.2.2.2.2.2.1, hF.2.2.2.2.2.2.2.2.2.2.2.2.2.2.2.2.2.2.2.2.2.1, hF.2.2.2.2.2.2.2.2.2.2.2.2.2.2.2.2.2.2.2.2.2.2.1, hF.2.2.2.2.2.2.2.2.2.2.2.2.2.2.2.2.2.2.2.2.2.2.2.1, hF.2.2.2.2.2.2.2.2.2.2.2.2.2.2.2.2.2.2.2.2.2.2.2.2.1, hF.2.2.2.2.2.2.2.2.2.2.2.2.2.2.2.2.2.2.2.2.2.2.2.2.2.1, hF.2.2.2.2.2.2.2.2.2.2.2.2.2.2.2.2.2.2.2.2.2.2.2.2.2.2.1, hF.2.2.2.2.2.2.2.2.2.2.2.2.2.2.2.2.2.2.2.2.2.2.2.2.2.2.2.1, hF.2.2.2.2.2.2.2.2.2.2.2.2.2.2.2.2.2.2.2.2.2.2.2.2.2.2.2.2.1, hF.2.2.2.2.2.2.2.2.2.2.2.2.2.2.2.2.2.2.2.2.2.2.2.2.2.2.2.2.2.1, hF.2.2.2.2.2.2.2.2.2.2.2.2.2.2.2.2.2.2.2.2.2.2.2.2.2.2.2.2.2.2.1, hF.2.2.2.2.2.2.2.2.2.2.2.2.2.2.2.2.2.2.2.2.2.2.2.2.2.2.2.2.2.2.2⟩, ⟨hW.1, hW.2.1, fun e => ft (h28.symm.trans e), fun e => ft (h31.symm.trans e), fun e => ft (h34.symm.trans e)⟩⟩
        refine StepsI.cons rfl ?_ ?_
        ·rintro L zA va ⟨zB, zS, rfl, rfl, hF, hW⟩ hL hm K hK
         have hb7 : zB 7 = false := by simpa using hL
         clear hL hm
         simp only [pE]
         have HWz := mkHid hW
         clear hW
         go_simp
         have hW := HWz.out
         clear HWz
         exact hK.out _ _ ⟨fun zj => if zj = 7 then true else zB zj, fun zd => if zd = 46 then .pointer (some ⟨Xn, 0, none⟩) else zS zd, rfl, by kernel_rfl, ⟨hF.1, hF.2.1, hF.2.2.1, hF.2.2.2.1, hF.2.2.2.2.1, hF.2.2.2.2.2.1, hF.2.2.2.2.2.2.1, fun _ => rfl, hF.2.2.2.2.2.2.2.2.1, hF.2.2.2.2.2.2.2.2.2.1, hF.2.2.2.2.2.2.2.2.2.2.1, hF.2.2.2.2.2.2.2.2.2.2.2.1, hF.2.2.2.2.2.2.2.2.2.2.2.2.1, hF.2.2.2.2.2.2.2.2.2.2.2.2.2.1, hF.2.2.2.2.2.2.2.2.2.2.2.2.2.2.1, hF.2.2.2.2.2.2.2.2.2.2.2.2.2.2.2.1, hF.2.2.2.2.2.2.2.2.2.2.2.2.2.2.2.2.1, hF.2.2.2.2.2.2.2.2.2.2.2.2.2.2.2.2.2.1, hF.2.2.2.2.2.2.2.2.2.2.2.2.2.2.2.2.2.2.1, hF.2.2.2.2.2.2.2.2.2.2.2.2.2.2.2.2.2.2.2.1, hF.2.2.2.2.2.2.2.2.2.2.2.2.2.2.2.2.2.2.2.2.1, hF.2.2.2.2.2.2.2.2.2.2.2.2.2.2.2.2.2.2.2.2.2.1, hF.2.2.2.2.2.2.2.2.2.2.2.2.2.2.2.2.2.2.2.2.2.2.1, hF.2.2.2.2.2.2.2.2.2.2.2.2.2.2.2.2.2.2.2.2.2.2.2.1, hF.2.2.2.2.2.2.2.2.2.2.2.2.2.2.2.2.2.2.2.2.2.2.2.2.1, hF.2.2.2.2.2.2.2.2.2.2.2.2.2.2.2.2.2.2.2.2.2.2.2.2.2.1, hF.2.2.2.2.2.2.2.2.2.2.2.2.2.2.2.2.2.2.2.2.2.2.2.2.2.2.1, hF.2.2.2.2.2.2.2.2.2.2.2.2.2.2.2.2.2.2.2.2.2.2.2.2.2.2.2.1, hF.2.2.2.2.2.2.2.2.2.2.2.2.2.2.2.2.2.2.2.2.2.2.2.2.2.2.2.2.1, hF.2.2.2.2.2.2.2.2.2.2.2.2.2.2.2.2.2.2.2.2.2.2.2.2.2.2.2.2.2.1, hF.2.2.2.2.2.2.2.2.2.2.2.2.2.2.2.2.2.2.2.2.2.2.2.2.2.2.2.2.2.2.1, hF.2.2.2.2.2.2.2.2.2.2.2.2.2.2.2.2.2.2.2.2.2.2.2.2.2.2.2.2.2.2.2⟩, hW⟩
        refine StepsI.cons rfl ?_ ?_
        ·rintro L zA va ⟨zB, zS, rfl, rfl, hF, hW⟩ hL hm K hK
         have hb8 : zB 8 = false := by simpa using hL
         have hb7 : zB 7 = true := mt 7 hm (by kernel_rfl)
         have e7 : zS 46 = .pointer (some ⟨Xn, 0, none⟩) := hF.2.2.2.2.2.2.2.1 hb7
         clear hL hm
         simp only [pE]
         simp only [e7]
         have HWz := mkHid hW
         clear hW
         go_simp
         have hW := HWz.out
         clear HWz
         exact hK.out _ _ ⟨fun zj => if zj = 7 then true else if zj = 8 then true else zB zj, fun zd => if zd = 47 then .pointer (some ⟨Xn, 0, none⟩) else if zd = 46 then .pointer (some ⟨Xn, 0, none⟩) else zS zd, by simp [hb7], by kernel_rfl, ⟨hF.1, hF.2.1, hF.2.2.1, hF.2.2.2.1, hF.2.2.2.2.1, hF.2.2.2.2.2.1, hF.2.2.2.2.2.2.1, fun _ => rfl, fun _ => rfl, hF.2.2.2.2.2.2.2.2.2.1, hF.2.2.2.2.2.2.2.2.2.2.1, hF.2.2.2.2.2.2.2.2.2.2.2.1, hF.2.2.2.2.2.2.2.2.2.2.2.2.1, hF.2.2.2.2.2.2.2.2.2.2.2.2.2.1, hF.2.2.2.2.2.2.2.2.2.2.2.2.2.2.1, hF.2.2.2.2.2.2.2.2.2.2.2.2.2.2.2.1, hF.2.2.2.2.2.2.2.2.2.2.2.2.2.2.2.2.1, hF.2.2.2.2.2.2.2.2.2.2.2.2.2.2.2.2.2.1, hF.2.2.2.2.2.2.2.2.2.2.2.2.2.2.2.2.2.2.1, hF.2.2.2.2.2.2.2.2.2.2.2.2.2.2.2.2.2.2.2.1, hF.2.2.2.2.2.2.2.2.2.2.2.2.2.2.2.2.2.2.2.2.1, hF.2.2.2.2.2.2.2.2.2.2.2.2.2.2.2.2.2.2.2.2.2.1, hF.2.2.2.2.2.2.2.2.2.2.2.2.2.2.2.2.2.2.2.2.2.2.1, hF.2.2.2.2.2.2.2.2.2.2.2.2.2.2.2.2.2.2.2.2.2.2.2.1, hF.2.2.2.2.2.2.2.2.2.2.2.2.2.2.2.2.2.2.2.2.2.2.2.2.1, hF.2.2.2.2.2.2.2.2.2.2.2.2.2.2.2.2.2.2.2.2.2.2.2.2.2.1, hF.2.2.2.2.2.2.2.2.2.2.2.2.2.2.2.2.2.2.2.2.2.2.2.2.2.2.1, hF.2.2.2.2.2.2.2.2.2.2.2.2.2.2.2.2.2.2.2.2.2.2.2.2.2.2.2.1, hF.2.2.2.2.2.2.2.2.2.2.2.2.2.2.2.2.2.2.2.2.2.2.2.2.2.2.2.2.1, hF.2.2.2.2.2.2.2.2.2.2.2.2.2.2.2.2.2.2.2.2.2.2.2.2.2.2.2.2.2.1, hF.2.2.2.2.2.2.2.2.2.2.2.2.2.2.2.2.2.2.2.2.2.2.2.2.2.2.2.2.2.2.1, hF.2.2.2.2.2.2.2.2.2.2.2.2.2.2.2.2.2.2.2.2.2.2.2.2.2.2.2.2.2.2.2⟩, hW⟩
        refine StepsI.cons rfl ?_ ?_
        ·rintro L zA va ⟨zB, zS, rfl, rfl, hF, hW⟩ hL hm K hK
         have hb9 : zB 9 = false := by simpa using hL
         have hb8 : zB 8 = true := mt 8 hm (by kernel_rfl)
         have e8 : zS 47 = .pointer (some ⟨Xn, 0, none⟩) := hF.2.2.2.2.2.2.2.2.1 hb8
         clear hL hm
         simp only [pE]
         simp only [e8]
         have HWz := mkHid hW
         clear hW
         go_simp
         have hW := HWz.out
         clear HWz
         exact hK.out _ _ ⟨fun zj => if zj = 8 then true else if zj = 9 then true else zB zj, fun zd => if zd = 48 then .pointer (some ⟨Xn, 2, none⟩) else if zd = 47 then .pointer (some ⟨Xn, 0, none⟩) else zS zd, by simp [hb8], by kernel_rfl, ⟨hF.1, hF.2.1, hF.2.2.1, hF.2.2.2.1, hF.2.2.2.2.1, hF.2.2.2.2.2.1, hF.2.2.2.2.2.2.1, hF.2.2.2.2.2.2.2.1, fun _ => rfl, fun _ => rfl, hF.2.2.2.2.2.2.2.2.2.2.1, hF.2.2.2.2.2.2.2.2.2.2.2.1, hF.2.2.2.2.2.2.2.2.2.2.2.2.1, hF.2.2.2.2.2.2.2.2.2.2.2.2.2.1, hF.2.2.2.2.2.2.2.2.2.2.2.2.2.2.1, hF.2.2.2.2.2.2.2.2.2.2.2.2.2.2.2.1, hF.2.2.2.2.2.2.2.2.2.2.2.2.2.2.2.2.1, hF.2.2.2.2.2.2.2.2.2.2.2.2.2.2.2.2.2.1, hF.2.2.2.2.2.2.2.2.2.2.2.2.2.2.2.2.2.2.1, hF.2.2.2.2.2.2.2.2.2.2.2.2.2.2.2.2.2.2.2.1, hF.2.2.2.2.2.2.2.2.2.2.2.2.2.2.2.2.2.2.2.2.1, hF.2.2.2.2.2.2.2.2.2.2.2.2.2.2.2.2.2.2.2.2.2.1, hF.2.2.2.2.2.2.2.2.2.2.2.2.2.2.2.2.2.2.2.2.2.2.1, hF.2.2.2.2.2.2.2.2.2.2.2.2.2.2.2.2.2.2.2.2.2.2.2.1, hF.2.2.2.2.2.2.2.2.2.2.2.2.2.2.2.2.2.2.2.2.2.2.2.2.1, hF.2.2.2.2.2.2.2.2.2.2.2.2.2.2.2.2.2.2.2.2.2.2.2.2.2.1, hF.2.2.2.2.2.2.2.2.2.2.2.2.2.2.2.2.2.2.2.2.2.2.2.2.2.2.1, hF.2.2.2.2.2.2.2.2.2.2.2.2.2.2.2.2.2.2.2.2.2.2.2.2.2.2.2.1, hF.2.2.2.2.2.2.2.2.2.2.2.2.2.2.2.2.2.2.2.2.2.2.2.2.2.2.2.2.1, hF.2.2.2.2.2.2.2.2.2.2.2.2.2.2.2.2.2.2.2.2.2.2.2.2.2.2.2.2.2.1, hF.2.2.2.2.2.2.2.2.2.2.2.2.2.2.2.2.2.2.2.2.2.2.2.2.2.2.2.2.2.2.1, hF.2.2.2.2.2.2.2.2.2.2.2.2.2.2.2.2.2.2.2.2.2.2.2.2.2.2.2.2.2.2.2⟩, hW⟩
        refine StepsI.cons rfl ?_ ?_
        ·rintro L zA va ⟨zB, zS, rfl, rfl, hF, hW⟩ hL hm K hK
         have hb10 : zB 10 = false := by simpa using hL
         have hb9 : zB 9 = true := mt 9 hm (by kernel_rfl)
         have e9 : zS 48 = .pointer (some ⟨Xn, 2, none⟩) := hF.2.2.2.2.2.2.2.2.2.1 hb9
         clear hL hm
         simp only [pE]
         simp only [e9]
         obtain ⟨_, _, n2, n3, n4, n5, n6, _, _, _, _, _, _, _⟩ := hnext va hW.1
         have HWz := mkHid hW
         clear hW
         go_simp
         have hW := HWz.out
         clear HWz
         exact hK.out _ _ ⟨fun zj => if zj = 9 then true else if zj = 10 then true else zB zj, fun zd => if zd = 49 then .agg #[.int .i64 vn.1, .int .i64 vn.2.1, .bool vn.2.2] else if zd = 48 then .pointer (some ⟨Xn, 2, none⟩) else zS zd, by simp [hb9], by kernel_rfl, ⟨hF.1, hF.2.1, hF.2.2.1, hF.2.2.2.1, hF.2.2.2.2.1, hF.2.2.2.2.2.1, hF.2.2.2.2.2.2.1, hF.2.2.2.2.2.2.2.1, hF.2.2.2.2.2.2.2.2.1, fun _ => rfl, fun _ => rfl, hF.2.2.2.2.2.2.2.2.2.2.2.1, hF.2.2.2.2.2.2.2.2.2.2.2.2.1, hF.2.2.2.2.2.2.2.2.2.2.2.2.2.1, hF.2.2.2.2.2.2.2.2.2.2.2.2.2.2.1, hF.2.2.2.2.2.2.2.2.2.2.2.2.2.2.2.1, hF.2.2.2.2.2.2.2.2.2.2.2.2.2.2.2.2.1, hF.2.2.2.2.2.2.2.2.2.2.2.2.2.2.2.2.2.1, hF.2.2.2.2.2.2.2.2.2.2.2.2.2.2.2.2.2.2.1, hF.2.2.2.2.2.2.2.2.2.2.2.2.2.2.2.2.2.2.2.1, hF.2.2.2.2.2.2.2.2.2.2.2.2.2.2.2.2.2.2.2.2.1, hF.2.2.2.2.2.2.2.2.2.2.2.2.2.2.2.2.2.2.2.2.2.1, hF.2.2.2.2.2.2.2.2.2.2.2.2.2.2.2.2.2.2.2.2.2.2.1, hF.2.2.2.2.2.2.2.2.2.2.2.2.2.2.2.2.2.2.2.2.2.2.2.1, hF.2.2.2.2.2.2.2.2.2.2.2.2.2.2.2.2.2.2.2.2.2.2.2.2.1, hF.2.2.2.2.2.2.2.2.2.2.2.2.2.2.2.2.2.2.2.2.2.2.2.2.2.1, hF.2.2.2.2.2.2.2.2.2.2.2.2.2.2.2.2.2.2.2.2.2.2.2.2.2.2.1, hF.2.2.2.2.2.2.2.2.2.2.2.2.2.2.2.2.2.2.2.2.2.2.2.2.2.2.2.1, hF.2.2.2.2.2.2.2.2.2.2.2.2.2.2.2.2.2.2.2.2.2.2.2.2.2.2.2.2.1, hF.2.2.2.2.2.2.2.2.2.2.2.2.2.2.2.2.2.2.2.2.2.2.2.2.2.2.2.2.2.1, hF.2.2.2.2.2.2.2.2.2.2.2.2.2.2.2.2.2.2.2.2.2.2.2.2.2.2.2.2.2.2.1, hF.2.2.2.2.2.2.2.2.2.2.2.2.2.2.2.2.2.2.2.2.2.2.2.2.2.2.2.2.2.2.2⟩, hW⟩
        refine StepsI.cons rfl ?_ ?_
        ·rintro L zA va ⟨zB, zS, rfl, rfl, hF, hW⟩ hL hm K hK
         have hb11 : zB 11 = false := by simpa using hL
         have hb6 : zB 6 = true := mt 6 hm (by kernel_rfl)
         have hb10 : zB 10 = true := mt 10 hm (by kernel_rfl)
         have e6 : zS 45 = .agg #[.int .i64 vv.1, .int .i64 vv.2.1, .bool vv.2.2] := hF.2.2.2.2.2.2.1 hb6
         have e10 : zS 49 = .agg #[.int .i64 vn.1, .int .i64 vn.2.1, .bool vn.2.2] := hF.2.2.2.2.2.2.2.2.2.2.1 hb10
         clear hL hm
         rw [hb6] at hW
         simp only [pE]
         simp only [e6, e10]
         have HWz := mkHid hW
         clear hW
         go_simp
         have hW := HWz.out
         clear HWz
         refine (iVjoin_any vv.1 vv.2.1 vv.2.2 vn.1 vn.2.1 vn.2.2 _).mono ?_
         rintro e va2 ⟨rfl, hb⟩
         rw [HVJ.out]
         have HWz := mkHid hW
         clear hW
         go_wp2_with fail
         have hW := HWz.out
         clear HWz
         exact hK.out _ _ ⟨fun zj => if zj = 10 then true else if zj = 6 then true else if zj = 11 then true else zB zj, fun zd => if zd = 50 then .agg #[.int .i64 vj.1, .int .i64 vj.2.1, .bool vj.2.2] else if zd = 49 then .agg #[.int .i64 vn.1, .int .i64 vn.2.1, .bool vn.2.2] else if zd = 45 then .agg #[.int .i64 vv.1, .int .i64 vv.2.1, .bool vv.2.2] else zS zd, by simp [hb6, hb10], by kernel_rfl, ⟨hF.1, hF.2.1, hF.2.2.1, hF.2.2.2.1, hF.2.2.2.2.1, hF.2.2.2.2.2.1, fun _ => rfl, hF.2.2.2.2.2.2.2.1, hF.2.2.2.2.2.2.2.2.1, hF.2.2.2.2.2.2.2.2.2.1, fun _ => rfl, fun _ => rfl, hF.2.2.2.2.2.2.2.2.2.2.2.2.1, hF.2.2.2.2.2.2.2.2.2.2.2.2.2.1, hF.2.2.2.2.2.2.2.2.2.2.2.2.2.2.1, hF.2.2.2.2.2.2.2.2.2.2.2.2.2.2.2.1, hF.2.2.2.2.2.2.2.2.2.2.2.2.2.2.2.2.1, hF.2.2.2.2.2.2.2.2.2.2.2.2.2.2.2.2.2.1, hF.2.2.2.2.2.2.2.2.2.2.2.2.2.2.2.2.2.2.1, hF.2.2.2.2.2.2.2.2.2.2.2.2.2.2.2.2.2.2.2.1, hF.2.2.2.2.2.2.2.2.2.2.2.2.2.2.2.2.2.2.2.2.1, hF.2.2.2.2.2.2.2.2.2.2.2.2.2.2.2.2.2.2.2.2.2.1, hF.2.2.2.2.2.2.2.2.2.2.2.2.2.2.2.2.2.2.2.2.2.2.1, hF.2.2.2.2.2.2.2.2.2.2.2.2.2.2.2.2.2.2.2.2.2.2.2.1, hF.2.2.2.2.2.2.2.2.2.2.2.2.2.2.2.2.2.2.2.2.2.2.2.2.1, hF.2.2.2.2.2.2.2.2.2.2.2.2.2.2.2.2.2.2.2.2.2.2.2.2.2.1, hF.2.2.2.2.2.2.2.2.2.2.2.2.2.2.2.2.2.2.2.2.2.2.2.2.2.2.1, hF.2.2.2.2.2.2.2.2.2.2.2.2.2.2.2.2.2.2.2.2.2.2.2.2.2.2.2.1, hF.2.2.2.2.2.2.2.2.2.2.2.2.2.2.2.2.2.2.2.2.2.2.2.2.2.2.2.2.1, hF.2.2.2.2.2.2.2.2.2.2.2.2.2.2.2.2.2.2.2.2.2.2.2.2.2.2.2.2.2.1, hF.2.2.2.2.2.2.2.2.2.2.2.2.2.2.2.2.2.2.2.2.2.2.2.2.2.2.2.2.2.2.1, hF.2.2.2.2.2.2.2.2.2.2.2.2.2.2.2.2.2.2.2.2.2.2.2.2.2.2.2.2.2.2.2⟩, ⟨hW.1.trans (Only.of hb), (hb.block _ (heap_lt hW.2.1)).trans hW.2.1, fun e => ⟨rfl, (hW.2.2.1 e).2⟩, fun e => ⟨rfl, (hW.2.2.2.1 e).2⟩, fun e => ⟨rfl, (hW.2.2.2.2 e).2⟩⟩⟩
        refine StepsI.cons rfl ?_ ?_
        ·rintro L zA va ⟨zB, zS, rfl, rfl, hF, hW⟩ hL hm K hK
         have hb12 : zB 12 = false := by simpa using hL
         clear hL hm
         simp only [pE]
         have HWz := mkHid hW
         clear hW
         go_simp
         have hW := HWz.out
         clear HWz
         exact hK.out _ _ ⟨fun zj => if zj = 12 then true else zB zj, fun zd => if zd = 51 then .pointer (some ⟨Xa, 0, none⟩) else zS zd, rfl, by kernel_rfl, ⟨hF.1, hF.2.1, hF.2.2.1, hF.2.2.2.1, hF.2.2.2.2.1, hF.2.2.2.2.2.1, hF.2.2.2.2.2.2.1, hF.2.2.2.2.2.2.2.1, hF.2.2.2.2.2.2.2.2.1, hF.2.2.2.2.2.2.2.2.2.1, hF.2.2.2.2.2.2.2.2.2.2.1, hF.2.2.2.2.2.2.2.2.2.2.2.1, fun _ => rfl, hF.2.2.2.2.2.2.2.2.2.2.2.2.2.1, hF.2.2.2.2.2.2.2.2.2.2.2.2.2.2.1, hF.2.2.2.2.2.2.2.2.2.2.2.2.2.2.2.1, hF.2.2.2.2.2.2.2.2.2.2.2.2.2.2.2.2.1, hF.2.2.2.2.2.2.2.2.2.2.2.2.2.2.2.2.2.1, hF.2.2.2.2.2.2.2.2.2.2.2.2.2.2.2.2.2.2.1, hF.2.2.2.2.2.2.2.2.2.2.2.2.2.2.2.2.2.2.2.1, hF.2.2.2.2.2.2.2.2.2.2.2.2.2.2.2.2.2.2.2.2.1, hF.2.2.2.2.2.2.2.2.2.2.2.2.2.2.2.2.2.2.2.2.2.1, hF.2.2.2.2.2.2.2.2.2.2.2.2.2.2.2.2.2.2.2.2.2.2.1, hF.2.2.2.2.2.2.2.2.2.2.2.2.2.2.2.2.2.2.2.2.2.2.2.1, hF.2.2.2.2.2.2.2.2.2.2.2.2.2.2.2.2.2.2.2.2.2.2.2.2.1, hF.2.2.2.2.2.2.2.2.2.2.2.2.2.2.2.2.2.2.2.2.2.2.2.2.2.1, hF.2.2.2.2.2.2.2.2.2.2.2.2.2.2.2.2.2.2.2.2.2.2.2.2.2.2.1, hF.2.2.2.2.2.2.2.2.2.2.2.2.2.2.2.2.2.2.2.2.2.2.2.2.2.2.2.1, hF.2.2.2.2.2.2.2.2.2.2.2.2.2.2.2.2.2.2.2.2.2.2.2.2.2.2.2.2.1, hF.2.2.2.2.2.2.2.2.2.2.2.2.2.2.2.2.2.2.2.2.2.2.2.2.2.2.2.2.2.1, hF.2.2.2.2.2.2.2.2.2.2.2.2.2.2.2.2.2.2.2.2.2.2.2.2.2.2.2.2.2.2.1, hF.2.2.2.2.2.2.2.2.2.2.2.2.2.2.2.2.2.2.2.2.2.2.2.2.2.2.2.2.2.2.2⟩, hW⟩
        refine StepsI.cons rfl ?_ ?_
        ·rintro L zA va ⟨zB, zS, rfl, rfl, hF, hW⟩ hL hm K hK
         have hb13 : zB 13 = false := by simpa using hL
         have hb12 : zB 12 = true := mt 12 hm (by kernel_rfl)
         have e12 : zS 51 = .pointer (some ⟨Xa, 0, none⟩) := hF.2.2.2.2.2.2.2.2.2.2.2.2.1 hb12
         clear hL hm
         simp only [pE]
         simp only [e12]
         have HWz := mkHid hW
         clear hW
         go_simp
         have hW := HWz.out
         clear HWz
         exact hK.out _ _ ⟨fun zj => if zj = 12 then true else if zj = 13 then true else zB zj, fun zd => if zd = 52 then .pointer (some ⟨Xa, 0, none⟩) else if zd = 51 then .pointer (some ⟨Xa, 0, none⟩) else zS zd, by simp [hb12], by kernel_rfl, ⟨hF.1, hF.2.1, hF.2.2.1, hF.2.2.2.1, hF.2.2.2.2.1, hF.2.2.2.2.2.1, hF.2.2.2.2.2.2.1, hF.2.2.2.2.2.2.2.1, hF.2.2.2.2.2.2.2.2.1, hF.2.2.2.2.2.2.2.2.2.1, hF.2.2.2.2.2.2.2.2.2.2.1, hF.2.2.2.2.2.2.2.2.2.2.2.1, fun _ => rfl, fun _ => rfl, hF.2.2.2.2.2.2.2.2.2.2.2.2.2.2.1, hF.2.2.2.2.2.2.2.2.2.2.2.2.2.2.2.1, hF.2.2.2.2.2.2.2.2.2.2.2.2.2.2.2.2.1, hF.2.2.2.2.2.2.2.2.2.2.2.2.2.2.2.2.2.1, hF.2.2.2.2.2.2.2.2.2.2.2.2.2.2.2.2.2.2.1, hF.2.2.2.2.2.2.2.2.2.2.2.2.2.2.2.2.2.2.2.1, hF.2.2.2.2.2.2.2.2.2.2.2.2.2.2.2.2.2.2.2.2.1, hF.2.2.2.2.2.2.2.2.2.2.2.2.2.2.2.2.2.2.2.2.2.1, hF.2.2.2.2.2.2.2.2.2.2.2.2.2.2.2.2.2.2.2.2.2.2.1, hF.2.2.2.2.2.2.2.2.2.2.2.2.2.2.2.2.2.2.2.2.2.2.2.1, hF.2.2.2.2.2.2.2.2.2.2.2.2.2.2.2.2.2.2.2.2.2.2.2.2.1, hF.2.2.2.2.2.2.2.2.2.2.2.2.2.2.2.2.2.2.2.2.2.2.2.2.2.1, hF.2.2.2.2.2.2.2.2.2.2.2.2.2.2.2.2.2.2.2.2.2.2.2.2.2.2.1, hF.2.2.2.2.2.2.2.2.2.2.2.2.2.2.2.2.2.2.2.2.2.2.2.2.2.2.2.1, hF.2.2.2.2.2.2.2.2.2.2.2.2.2.2.2.2.2.2.2.2.2.2.2.2.2.2.2.2.1, hF.2.2.2.2.2.2.2.2.2.2.2.2.2.2.2.2.2.2.2.2.2.2.2.2.2.2.2.2.2.1, hF.2.2.2.2.2.2.2.2.2.2.2.2.2.2.2.2.2.2.2.2.2.2.2.2.2.2.2.2.2.2.1, hF.2.2.2.2.2.2.2.2.2.2.2.2.2.2.2.2.2.2.2.2.2.2.2.2.2.2.2.2.2.2.2⟩, hW⟩
        refine StepsI.cons rfl ?_ ?_
        ·rintro L zA va ⟨zB, zS, rfl, rfl, hF, hW⟩ hL hm K hK
         have hb14 : zB 14 = false := by simpa using hL
         have hb13 : zB 13 = true := mt 13 hm (by kernel_rfl)
         have e13 : zS 52 = .pointer (some ⟨Xa, 0, none⟩) := hF.2.2.2.2.2.2.2.2.2.2.2.2.2.1 hb13
         clear hL hm
         simp only [pE]
         simp only [e13]
         have HWz := mkHid hW
         clear hW
         go_simp
         have hW := HWz.out
         clear HWz
         exact hK.out _ _ ⟨fun zj => if zj = 13 then true else if zj = 14 then true else zB zj, fun zd => if zd = 53 then .pointer (some ⟨Xa, 5, none⟩) else if zd = 52 then .pointer (some ⟨Xa, 0, none⟩) else zS zd, by simp [hb13], by kernel_rfl, ⟨hF.1, hF.2.1, hF.2.2.1, hF.2.2.2.1, hF.2.2.2.2.1, hF.2.2.2.2.2.1, hF.2.2.2.2.2.2.1, hF.2.2.2.2.2.2.2.1, hF.2.2.2.2.2.2.2.2.1, hF.2.2.2.2.2.2.2.2.2.1, hF.2.2.2.2.2.2.2.2.2.2.1, hF.2.2.2.2.2.2.2.2.2.2.2.1, hF.2.2.2.2.2.2.2.2.2.2.2.2.1, fun _ => rfl, fun _ => rfl, hF.2.2.2.2.2.2.2.2.2.2.2.2.2.2.2.1, hF.2.2.2.2.2.2.2.2.2.2.2.2.2.2.2.2.1, hF.2.2.2.2.2.2.2.2.2.2.2.2.2.2.2.2.2.1, hF.2.2.2.2.2.2.2.2.2.2.2.2.2.2.2.2.2.2.1, hF.2.2.2.2.2.2.2.2.2.2.2.2.2.2.2.2.2.2.2.1, hF.2.2.2.2.2.2.2.2.2.2.2.2.2.2.2.2.2.2.2.2.1, hF.2.2.2.2.2.2.2.2.2.2.2.2.2.2.2.2.2.2.2.2.2.1, hF.2.2.2.2.2.2.2.2.2.2.2.2.2.2.2.2.2.2.2.2.2.2.1, hF.2.2.2.2.2.2.2.2.2.2.2.2.2.2.2.2.2.2.2.2.2.2.2.1, hF.2.2.2.2.2.2.2.2.2.2.2.2.2.2.2.2.2.2.2.2.2.2.2.2.1, hF.2.2.2.2.2.2.2.2.2.2.2.2.2.2.2.2.2.2.2.2.2.2.2.2.2.1, hF.2.2.2.2.2.2.2.2.2.2.2.2.2.2.2.2.2.2.2.2.2.2.2.2.2.2.1, hF.2.2.2.2.2.2.2.2.2.2.2.2.2.2.2.2.2.2.2.2.2.2.2.2.2.2.2.1, hF.2.2.2.2.2.2.2.2.2.2.2.2.2.2.2.2.2.2.2.2.2.2.2.2.2.2.2.2.1, hF.2.2.2.2.2.2.2.2.2.2.2.2.2.2.2.2.2.2.2.2.2.2.2.2.2.2.2.2.2.1, hF.2.2.2.2.2.2.2.2.2.2.2.2.2.2.2.2.2.2.2.2.2.2.2.2.2.2.2.2.2.2.1, hF.2.2.2.2.2.2.2.2.2.2.2.2.2.2.2.2.2.2.2.2.2.2.2.2.2.2.2.2.2.2.2⟩, hW⟩
        refine StepsI.cons rfl ?_ ?_
        ·rintro L zA va ⟨zB, zS, rfl, rfl, hF, hW⟩ hL hm K hK
         have hb15 : zB 15 = false := by simpa using hL
         have hb14 : zB 14 = true := mt 14 hm (by kernel_rfl)
         have e14 : zS 53 = .pointer (some ⟨Xa, 5, none⟩) := hF.2.2.2.2.2.2.2.2.2.2.2.2.2.2.1 hb14
         clear hL hm
         rw [hb15] at hW
         simp only [pE]
         simp only [e14]
         have h28 : zB 28 = false := by cases e : zB 28 with | false => rfl | true => exact ft (hW.2.2.1 e).2
         have h31 : zB 31 = false := by cases e : zB 31 with | false => rfl | true => exact ft (hW.2.2.2.1 e).2
         have h34 : zB 34 = false := by cases e : zB 34 with | false => rfl | true => exact ft (hW.2.2.2.2 e).2
         have hC := hW.2.1
         rw [h28, h31, h34] at hC
         obtain ⟨_, _, c2, c3, c4, c5, _, _, _, _, _, _, _, _⟩ := cel_of hC
         simp only [sel] at c2 c3 c4 c5
         clear hC
         have HWz := mkHid hW
         clear hW
         go_simp
         have hW := HWz.out
         clear HWz
         exact hK.out _ _ ⟨fun zj => if zj = 14 then true else if zj = 15 then true else zB zj, fun zd => if zd = 54 then .bool true else if zd = 53 then .pointer (some ⟨Xa, 5, none⟩) else zS zd, by simp [hb14], by kernel_rfl, ⟨hF.1, hF.2.1, hF.2.2.1, hF.2.2.2.1, hF.2.2.2.2.1, hF.2.2.2.2.2.1, hF.2.2.2.2.2.2.1, hF.2.2.2.2.2.2.2.1, hF.2.2.2.2.2.2.2.2.1, hF.2.2.2.2.2.2.2.2.2.1, hF.2.2.2.2.2.2.2.2.2.2.1, hF.2.2.2.2.2.2.2.2.2.2.2.1, hF.2.2.2.2.2.2.2.2.2.2.2.2.1, hF.2.2.2.2.2.2.2.2.2.2.2.2.2.1, fun _ => rfl, fun _ => rfl, hF.2.2.2.2.2.2.2.2.2.2.2.2.2.2.2.2.1, hF.2.2.2.2.2.2.2.2.2.2.2.2.2.2.2.2.2.1, hF.2.2.2.2.2.2.2.2.2.2.2.2.2.2.2.2.2.2.1, hF.2.2.2.2.2.2.2.2.2.2.2.2.2.2.2.2.2.2.2.1, hF.2.2.2.2.2.2.2.2.2.2.2.2.2.2.2.2.2.2.2.2.1, hF.2.2.2.2.2.2.2.2.2.2.2.2.2.2.2.2.2.2.2.2.2.1, hF.2.2.2.2.2.2.2.2.2.2.2.2.2.2.2.2.2.2.2.2.2.2.1, hF.2.2.2.2.2.2.2.2.2.2.2.2.2.2.2.2.2.2.2.2.2.2.2.1, hF.2.2.2.2.2.2.2.2.2.2.2.2.2.2.2.2.2.2.2.2.2.2.2.2.1, hF.2.2.2.2.2.2.2.2.2.2.2.2.2.2.2.2.2.2.2.2.2.2.2.2.2.1, hF.2.2.2.2.2.2.2.2.2.2.2.2.2.2.2.2.2.2.2.2.2.2.2.2.2.2.1, hF.2.2.2.2.2.2.2.2.2.2.2.2.2.2.2.2.2.2.2.2.2.2.2.2.2.2.2.1, hF.2.2.2.2.2.2.2.2.2.2.2.2.2.2.2.2.2.2.2.2.2.2.2.2.2.2.2.2.1, hF.2.2.2.2.2.2.2.2.2.2.2.2.2.2.2.2.2.2.2.2.2.2.2.2.2.2.2.2.2.1, hF.2.2.2.2.2.2.2.2.2.2.2.2.2.2.2.2.2.2.2.2.2.2.2.2.2.2.2.2.2.2.1, hF.2.2.2.2.2.2.2.2.2.2.2.2.2.2.2.2.2.2.2.2.2.2.2.2.2.2.2.2.2.2.2⟩, ⟨hW.1, hW.2.1, fun e => ft (h28.symm.trans e), fun e => ft (h31.symm.trans e), fun e => ft (h34.symm.trans e)⟩⟩
        refine StepsI.cons rfl ?_ ?_
        ·rintro L zA va ⟨zB, zS, rfl, rfl, hF, hW⟩ hL hm K hK
         have hb16 : zB 16 = false := by simpa using hL
         have hb15 : zB 15 = true := mt 15 hm (by kernel_rfl)
         have e15 : zS 54 = .bool true := hF.2.2.2.2.2.2.2.2.2.2.2.2.2.2.2.1 hb15
         clear hL hm
         rw [hb15] at hW
         simp only [pE]
         simp only [e15]
         have HWz := mkHid hW
         clear hW
         go_simp
         have hW := HWz.out
         clear HWz
         exact hK.out _ _ ⟨fun zj => if zj = 15 then true else if zj = 16 then true else zB zj, fun zd => if zd = 55 then .bool true else if zd = 54 then .bool true else zS zd, by simp [hb15], by kernel_rfl, ⟨hF.1, hF.2.1, hF.2.2.1, hF.2.2.2.1, hF.2.2.2.2.1, hF.2.2.2.2.2.1, hF.2.2.2.2.2.2.1, hF.2.2.2.2.2.2.2.1, hF.2.2.2.2.2.2.2.2.1, hF.2.2.2.2.2.2.2.2.2.1, hF.2.2.2.2.2.2.2.2.2.2.1, hF.2.2.2.2.2.2.2.2.2.2.2.1, hF.2.2.2.2.2.2.2.2.2.2.2.2.1, hF.2.2.2.2.2.2.2.2.2.2.2.2.2.1, hF.2.2.2.2.2.2.2.2.2.2.2.2.2.2.1, fun _ => rfl, fun _ => rfl, hF.2.2.2.2.2.2.2.2.2.2.2.2.2.2.2.2.2.1, hF.2.2.2.2.2.2.2.2.2.2.2.2.2.2.2.2.2.2.1, hF.2.2.2.2.2.2.2.2.2.2.2.2.2.2.2.2.2.2.2.1, hF.2.2.2.2.2.2.2.2.2.2.2.2.2.2.2.2.2.2.2.2.1, hF.2.2.2.2.2.2.2.2.2.2.2.2.2.2.2.2.2.2.2.2.2.1, hF.2.2.2.2.2.2.2.2.2.2.2.2.2.2.2.2.2.2.2.2.2.2.1, hF.2.2.2.2.2.2.2.2.2.2.2.2.2.2.2.2.2.2.2.2.2.2.2.1, hF.2.2.2.2.2.2.2.2.2.2.2.2.2.2.2.2.2.2.2.2.2.2.2.2.1, hF.2.2.2.2.2.2.2.2.2.2.2.2.2.2.2.2.2.2.2.2.2.2.2.2.2.1, hF.2.2.2.2.2.2.2.2.2.2.2.2.2.2.2.2.2.2.2.2.2.2.2.2.2.2.1, hF.2.2.2.2.2.2.2.2.2.2.2.2.2.2.2.2.2.2.2.2.2.2.2.2.2.2.2.1, hF.2.2.2.2.2.2.2.2.2.2.2.2.2.2.2.2.2.2.2.2.2.2.2.2.2.2.2.2.1, hF.2.2.2.2.2.2.2.2.2.2.2.2.2.2.2.2.2.2.2.2.2.2.2.2.2.2.2.2.2.1, hF.2.2.2.2.2.2.2.2.2.2.2.2.2.2.2.2.2.2.2.2.2.2.2.2.2.2.2.2.2.2.1, hF.2.2.2.2.2.2.2.2.2.2.2.2.2.2.2.2.2.2.2.2.2.2.2.2.2.2.2.2.2.2.2⟩, hW⟩
        refine StepsI.cons rfl ?_ ?_
        ·rintro L zA va ⟨zB, zS, rfl, rfl, hF, hW⟩ hL hm K hK
         have hb17 : zB 17 = false := by simpa using hL
         have hb16 : zB 16 = true := mt 16 hm (by kernel_rfl)
         have e16 : zS 55 = .bool true := hF.2.2.2.2.2.2.2.2.2.2.2.2.2.2.2.2.1 hb16
         clear hL hm
         simp only [pE]
         simp only [e16]
         have HWz := mkHid hW
         clear hW
         go_simp
         have hW := HWz.out
         clear HWz
         exact hK.out _ _ ⟨fun zj => if zj = 16 then true else if zj = 17 then true else zB zj, fun zd => if zd = 56 then .pointer (some ⟨Xn, 0, none⟩) else if zd = 55 then .bool true else zS zd, by simp [hb16], by kernel_rfl, ⟨hF.1, hF.2.1, hF.2.2.1, hF.2.2.2.1, hF.2.2.2.2.1, hF.2.2.2.2.2.1, hF.2.2.2.2.2.2.1, hF.2.2.2.2.2.2.2.1, hF.2.2.2.2.2.2.2.2.1, hF.2.2.2.2.2.2.2.2.2.1, hF.2.2.2.2.2.2.2.2.2.2.1, hF.2.2.2.2.2.2.2.2.2.2.2.1, hF.2.2.2.2.2.2.2.2.2.2.2.2.1, hF.2.2.2.2.2.2.2.2.2.2.2.2.2.1, hF.2.2.2.2.2.2.2.2.2.2.2.2.2.2.1, hF.2.2.2.2.2.2.2.2.2.2.2.2.2.2.2.1, fun _ => rfl, fun _ => rfl, hF.2.2.2.2.2.2.2.2.2.2.2.2.2.2.2.2.2.2.1, hF.2.2.2.2.2.2.2.2.2.2.2.2.2.2.2.2.2.2.2.1, hF.2.2.2.2.2.2.2.2.2.2.2.2.2.2.2.2.2.2.2.2.1, hF.2.2.2.2.2.2.2.2.2.2.2.2.2.2.2.2.2.2.2.2.2.1, hF.2.2.2.2.2.2.2.2.2.2.2.2.2.2.2.2.2.2.2.2.2.2.1, hF.2.2.2.2.2.2.2.2.2.2.2.2.2.2.2.2.2.2.2.2.2.2.2.1, hF.2.2.2.2.2.2.2.2.2.2.2.2.2.2.2.2.2.2.2.2.2.2.2.2.1, hF.2.2.2.2.2.2.2.2.2.2.2.2.2.2.2.2.2.2.2.2.2.2.2.2.2.1, hF.2.2.2.2.2.2.2.2.2.2.2.2.2.2.2.2.2.2.2.2.2.2.2.2.2.2.1, hF.2.2.2.2.2.2.2.2.2.2.2.2.2.2.2.2.2.2.2.2.2.2.2.2.2.2.2.1, hF.2.2.2.2.2.2.2.2.2.2.2.2.2.2.2.2.2.2.2.2.2.2.2.2.2.2.2.2.1, hF.2.2.2.2.2.2.2.2.2.2.2.2.2.2.2.2.2.2.2.2.2.2.2.2.2.2.2.2.2.1, hF.2.2.2.2.2.2.2.2.2.2.2.2.2.2.2.2.2.2.2.2.2.2.2.2.2.2.2.2.2.2.1, hF.2.2.2.2.2.2.2.2.2.2.2.2.2.2.2.2.2.2.2.2.2.2.2.2.2.2.2.2.2.2.2⟩, hW⟩
        refine StepsI.cons rfl ?_ ?_
        ·rintro L zA va ⟨zB, zS, rfl, rfl, hF, hW⟩ hL hm K hK
         have hb18 : zB 18 = false := by simpa using hL
         have hb16 : zB 16 = true := mt 16 hm (by kernel_rfl)
         have hb17 : zB 17 = true := mt 17 hm (by kernel_rfl)
         have e16 : zS 55 = .bool true := hF.2.2.2.2.2.2.2.2.2.2.2.2.2.2.2.2.1 hb16
         have e17 : zS 56 = .pointer (some ⟨Xn, 0, none⟩) := hF.2.2.2.2.2.2.2.2.2.2.2.2.2.2.2.2.2.1 hb17
         clear hL hm
         simp only [pE]
         simp only [e16, e17]
         have HWz := mkHid hW
         clear hW
         go_simp
         have hW := HWz.out
         clear HWz
         exact hK.out _ _ ⟨fun zj => if zj = 17 then true else if zj = 16 then true else if zj = 18 then true else zB zj, fun zd => if zd = 57 then .pointer (some ⟨Xn, 0, none⟩) else if zd = 56 then .pointer (some ⟨Xn, 0, none⟩) else if zd = 55 then .bool true else zS zd, by simp [hb16, hb17], by kernel_rfl, ⟨hF.1, hF.2.1, hF.2.2.1, hF.2.2.2.1, hF.2.2.2.2.1, hF.2.2.2.2.2.1, hF.2.2.2.2.2.2.1, hF.2.2.2.2.2.2.2.1, hF.2.2.2.2.2.2.2.2.1, hF.2.2.2.2.2.2.2.2.2.1, hF.2.2.2.2.2.2.2.2.2.2.1, hF.2.2.2.2.2.2.2.2.2.2.2.1, hF.2.2.2.2.2.2.2.2.2.2.2.2.1, hF.2.2.2.2.2.2.2.2.2.2.2.2.2.1, hF.2.2.2.2.2.2.2.2.2.2.2.2.2.2.1, hF.2.2.2.2.2.2.2.2.2.2.2.2.2.2.2.1, fun _ => rfl, fun _ => rfl, fun _ => rfl, hF.2.2.2.2.2.2.2.2.2.2.2.2.2.2.2.2.2.2.2.1, hF.2.2.2.2.2.2.2.2.2.2.2.2.2.2.2.2.2.2.2.2.1, hF.2.2.2.2.2.2.2.2.2.2.2.2.2.2.2.2.2.2.2.2.2.1, hF.2.2.2.2.2.2.2.2.2.2.2.2.2.2.2.2.2.2.2.2.2.2.1, hF.2.2.2.2.2.2.2.2.2.2.2.2.2.2.2.2.2.2.2.2.2.2.2.1, hF.2.2.2.2.2.2.2.2.2.2.2.2.2.2.2.2.2.2.2.2.2.2.2.2.1, hF.2.2.2.2.2.2.2.2.2.2.2.2.2.2.2.2.2.2.2.2.2.2.2.2.2.1, hF.2.2.2.2.2.2.2.2.2.2.2.2.2.2.2.2.2.2.2.2.2.2.2.2.2.2.1, hF.2.2.2.2.2.2.2.2.2.2.2.2.2.2.2.2.2.2.2.2.2.2.2.2.2.2.2.1, hF.2.2.2.2.2.2.2.2.2.2.2.2.2.2.2.2.2.2.2.2.2.2.2.2.2.2.2.2.1, hF.2.2.2.2.2.2.2.2.2.2.2.2.2.2.2.2.2.2.2.2.2.2.2.2.2.2.2.2.2.1, hF.2.2.2.2.2.2.2.2.2.2.2.2.2.2.2.2.2.2.2.2.2.2.2.2.2.2.2.2.2.2.1, hF.2.2.2.2.2.2.2.2.2.2.2.2.2.2.2.2.2.2.2.2.2.2.2.2.2.2.2.2.2.2.2⟩, hW⟩
        refine StepsI.cons rfl ?_ ?_
        ·rintro L zA va ⟨zB, zS, rfl, rfl, hF, hW⟩ hL hm K hK
         have hb19 : zB 19 = false := by simpa using hL
         have hb16 : zB 16 = true := mt 16 hm (by kernel_rfl)
         have hb18 : zB 18 = true := mt 18 hm (by kernel_rfl)
         have e16 : zS 55 = .bool true := hF.2.2.2.2.2.2.2.2.2.2.2.2.2.2.2.2.1 hb16
         have e18 : zS 57 = .pointer (some ⟨Xn, 0, none⟩) := hF.2.2.2.2.2.2.2.2.2.2.2.2.2.2.2.2.2.2.1 hb18
         clear hL hm
         simp only [pE]
         simp only [e16, e18]
         have HWz := mkHid hW
         clear hW
         go_simp
         have hW := HWz.out
         clear HWz
         exact hK.out _ _ ⟨fun zj => if zj = 18 then true else if zj = 16 then true else if zj = 19 then true else zB zj, fun zd => if zd = 58 then .pointer (some ⟨Xn, 5, none⟩) else if zd = 57 then .pointer (some ⟨Xn, 0, none⟩) else if zd = 55 then .bool true else zS zd, by simp [hb16, hb18], by kernel_rfl, ⟨hF.1, hF.2.1, hF.2.2.1, hF.2.2.2.1, hF.2.2.2.2.1, hF.2.2.2.2.2.1, hF.2.2.2.2.2.2.1, hF.2.2.2.2.2.2.2.1, hF.2.2.2.2.2.2.2.2.1, hF.2.2.2.2.2.2.2.2.2.1, hF.2.2.2.2.2.2.2.2.2.2.1, hF.2.2.2.2.2.2.2.2.2.2.2.1, hF.2.2.2.2.2.2.2.2.2.2.2.2.1, hF.2.2.2.2.2.2.2.2.2.2.2.2.2.1, hF.2.2.2.2.2.2.2.2.2.2.2.2.2.2.1, hF.2.2.2.2.2.2.2.2.2.2.2.2.2.2.2.1, fun _ => rfl, hF.2.2.2.2.2.2.2.2.2.2.2.2.2.2.2.2.2.1, fun _ => rfl, fun _ => rfl, hF.2.2.2.2.2.2.2.2.2.2.2.2.2.2.2.2.2.2.2.2.1, hF.2.2.2.2.2.2.2.2.2.2.2.2.2.2.2.2.2.2.2.2.2.1, hF.2.2.2.2.2.2.2.2.2.2.2.2.2.2.2.2.2.2.2.2.2.2.1, hF.2.2.2.2.2.2.2.2.2.2.2.2.2.2.2.2.2.2.2.2.2.2.2.1, hF.2.2.2.2.2.2.2.2.2.2.2.2.2.2.2.2.2.2.2.2.2.2.2.2.1, hF.2.2.2.2.2.2.2.2.2.2.2.2.2.2.2.2.2.2.2.2.2.2.2.2.2.1, hF.2.2.2.2.2.2.2.2.2.2.2.2.2.2.2.2.2.2.2.2.2.2.2.2.2.2.1, hF.2.2.2.2.2.2.2.2.2.2.2.2.2.2.2.2.2.2.2.2.2.2.2.2.2.2.2.1, hF.2.2.2.2.2.2.2.2.2.2.2.2.2.2.2.2.2.2.2.2.2.2.2.2.2.2.2.2.1, hF.2.2.2.2.2.2.2.2.2.2.2.2.2.2.2.2.2.2.2.2.2.2.2.2.2.2.2.2.2.1, hF.2.2.2.2.2.2.2.2.2.2.2.2.2.2.2.2.2.2.2.2.2.2.2.2.2.2.2.2.2.2.1, hF.2.2.2.2.2.2.2.2.2.2.2.2.2.2.2.2.2.2.2.2.2.2.2.2.2.2.2.2.2.2.2⟩, hW⟩
        refine StepsI.cons rfl ?_ ?_
        ·rintro L zA va ⟨zB, zS, rfl, rfl, hF, hW⟩ hL hm K hK
         have hb20 : zB 20 = false := by simpa using hL
         have hb16 : zB 16 = true := mt 16 hm (by kernel_rfl)
         have hb19 : zB 19 = true := mt 19 hm (by kernel_rfl)
         have e16 : zS 55 = .bool true := hF.2.2.2.2.2.2.2.2.2.2.2.2.2.2.2.2.1 hb16
         have e19 : zS 58 = .pointer (some ⟨Xn, 5, none⟩) := hF.2.2.2.2.2.2.2.2.2.2.2.2.2.2.2.2.2.2.2.1 hb19
         clear hL hm
         simp only [pE]
         simp only [e16, e19]
         obtain ⟨_, _, n2, n3, n4, n5, n6, _, _, _, _, _, _, _⟩ := hnext va hW.1
         have HWz := mkHid hW
         clear hW
         go_simp
         have hW := HWz.out
         clear HWz
         exact hK.out _ _ ⟨fun zj => if zj = 19 then true else if zj = 16 then true else if zj = 20 then true else zB zj, fun zd => if zd = 59 then .bool mn else if zd = 58 then .pointer (some ⟨Xn, 5, none⟩) else if zd = 55 then .bool true else zS zd, by simp [hb16, hb19], by kernel_rfl, ⟨hF.1, hF.2.1, hF.2.2.1, hF.2.2.2.1, hF.2.2.2.2.1, hF.2.2.2.2.2.1, hF.2.2.2.2.2.2.1, hF.2.2.2.2.2.2.2.1, hF.2.2.2.2.2.2.2.2.1, hF.2.2.2.2.2.2.2.2.2.1, hF.2.2.2.2.2.2.2.2.2.2.1, hF.2.2.2.2.2.2.2.2.2.2.2.1, hF.2.2.2.2.2.2.2.2.2.2.2.2.1, hF.2.2.2.2.2.2.2.2.2.2.2.2.2.1, hF.2.2.2.2.2.2.2.2.2.2.2.2.2.2.1, hF.2.2.2.2.2.2.2.2.2.2.2.2.2.2.2.1, fun _ => rfl, hF.2.2.2.2.2.2.2.2.2.2.2.2.2.2.2.2.2.1, hF.2.2.2.2.2.2.2.2.2.2.2.2.2.2.2.2.2.2.1, fun _ => rfl, fun _ => rfl, hF.2.2.2.2.2.2.2.2.2.2.2.2.2.2.2.2.2.2.2.2.2.1, hF.2.2.2.2.2.2.2.2.2.2.2.2.2.2.2.2.2.2.2.2.2.2.1, hF.2.2.2.2.2.2.2.2.2.2.2.2.2.2.2.2.2.2.2.2.2.2.2.1, hF.2.2.2.2.2.2.2.2.2.2.2.2.2.2.2.2.2.2.2.2.2.2.2.2.1, hF.2.2.2.2.2.2.2.2.2.2.2.2.2.2.2.2.2.2.2.2.2.2.2.2.2.1, hF.2.2.2.2.2.2.2.2.2.2.2.2.2.2.2.2.2.2.2.2.2.2.2.2.2.2.1, hF.2.2.2.2.2.2.2.2.2.2.2.2.2.2.2.2.2.2.2.2.2.2.2.2.2.2.2.1, hF.2.2.2.2.2.2.2.2.2.2.2.2.2.2.2.2.2.2.2.2.2.2.2.2.2.2.2.2.1, hF.2.2.2.2.2.2.2.2.2.2.2.2.2.2.2.2.2.2.2.2.2.2.2.2.2.2.2.2.2.1, hF.2.2.2.2.2.2.2.2.2.2.2.2.2.2.2.2.2.2.2.2.2.2.2.2.2.2.2.2.2.2.1, hF.2.2.2.2.2.2.2.2.2.2.2.2.2.2.2.2.2.2.2.2.2.2.2.2.2.2.2.2.2.2.2⟩, hW⟩
        refine StepsI.cons rfl ?_ ?_
        ·rintro L zA va ⟨zB, zS, rfl, rfl, hF, hW⟩ hL hm K hK
         have hb21 : zB 21 = false := by simpa using hL
         have hb16 : zB 16 = true := mt 16 hm (by kernel_rfl)
         have hb20 : zB 20 = true := mt 20 hm (by kernel_rfl)
         have e16 : zS 55 = .bool true := hF.2.2.2.2.2.2.2.2.2.2.2.2.2.2.2.2.1 hb16
         have e20 : zS 59 = .bool mn := hF.2.2.2.2.2.2.2.2.2.2.2.2.2.2.2.2.2.2.2.2.1 hb20
         clear hL hm
         simp only [pE]
         simp only [e16, e20]
         have HWz := mkHid hW
         clear hW
         go_simp
         have hW := HWz.out
         clear HWz
         exact hK.out _ _ ⟨fun zj => if zj = 20 then true else if zj = 16 then true else if zj = 21 then true else zB zj, fun zd => if zd = 60 then .bool mn else if zd = 59 then .bool mn else if zd = 55 then .bool true else zS zd, by simp [hb16, hb20], by kernel_rfl, ⟨hF.1, hF.2.1, hF.2.2.1, hF.2.2.2.1, hF.2.2.2.2.1, hF.2.2.2.2.2.1, hF.2.2.2.2.2.2.1, hF.2.2.2.2.2.2.2.1, hF.2.2.2.2.2.2.2.2.1, hF.2.2.2.2.2.2.2.2.2.1, hF.2.2.2.2.2.2.2.2.2.2.1, hF.2.2.2.2.2.2.2.2.2.2.2.1, hF.2.2.2.2.2.2.2.2.2.2.2.2.1, hF.2.2.2.2.2.2.2.2.2.2.2.2.2.1, hF.2.2.2.2.2.2.2.2.2.2.2.2.2.2.1, hF.2.2.2.2.2.2.2.2.2.2.2.2.2.2.2.1, fun _ => rfl, hF.2.2.2.2.2.2.2.2.2.2.2.2.2.2.2.2.2.1, hF.2.2.2.2.2.2.2.2.2.2.2.2.2.2.2.2.2.2.1, hF.2.2.2.2.2.2.2.2.2.2.2.2.2.2.2.2.2.2.2.1, fun _ => rfl, fun _ => rfl, hF.2.2.2.2.2.2.2.2.2.2.2.2.2.2.2.2.2.2.2.2.2.2.1, hF.2.2.2.2.2.2.2.2.2.2.2.2.2.2.2.2.2.2.2.2.2.2.2.1, hF.2.2.2.2.2.2.2.2.2.2.2.2.2.2.2.2.2.2.2.2.2.2.2.2.1, hF.2.2.2.2.2.2.2.2.2.2.2.2.2.2.2.2.2.2.2.2.2.2.2.2.2.1, hF.2.2.2.2.2.2.2.2.2.2.2.2.2.2.2.2.2.2.2.2.2.2.2.2.2.2.1, hF.2.2.2.2.2.2.2.2.2.2.2.2.2.2.2.2.2.2.2.2.2.2.2.2.2.2.2.1, hF.2.2.2.2.2.2.2.2.2.2.2.2.2.2.2.2.2.2.2.2.2.2.2.2.2.2.2.2.1, hF.2.2.2.2.2.2.2.2.2.2.2.2.2.2.2.2.2.2.2.2.2.2.2.2.2.2.2.2.2.1, hF.2.2.2.2.2.2.2.2.2.2.2.2.2.2.2.2.2.2.2.2.2.2.2.2.2.2.2.2.2.2.1, hF.2.2.2.2.2.2.2.2.2.2.2.2.2.2.2.2.2.2.2.2.2.2.2.2.2.2.2.2.2.2.2⟩, hW⟩
        refine StepsI.cons rfl ?_ ?_
        ·rintro L zA va ⟨zB, zS, rfl, rfl, hF, hW⟩ hL hm K hK
         have hb22 : zB 22 = false := by simpa using hL
         clear hL hm
         simp only [pE]
         have HWz := mkHid hW
         clear hW
         go_simp
         have hW := HWz.out
         clear HWz
         exact hK.out _ _ ⟨fun zj => if zj = 22 then true else zB zj, fun zd => if zd = 61 then .pointer (some ⟨Xn, 0, none⟩) else zS zd, rfl, by kernel_rfl, ⟨hF.1, hF.2.1, hF.2.2.1, hF.2.2.2.1, hF.2.2.2.2.1, hF.2.2.2.2.2.1, hF.2.2.2.2.2.2.1, hF.2.2.2.2.2.2.2.1, hF.2.2.2.2.2.2.2.2.1, hF.2.2.2.2.2.2.2.2.2.1, hF.2.2.2.2.2.2.2.2.2.2.1, hF.2.2.2.2.2.2.2.2.2.2.2.1, hF.2.2.2.2.2.2.2.2.2.2.2.2.1, hF.2.2.2.2.2.2.2.2.2.2.2.2.2.1, hF.2.2.2.2.2.2.2.2.2.2.2.2.2.2.1, hF.2.2.2.2.2.2.2.2.2.2.2.2.2.2.2.1, hF.2.2.2.2.2.2.2.2.2.2.2.2.2.2.2.2.1, hF.2.2.2.2.2.2.2.2.2.2.2.2.2.2.2.2.2.1, hF.2.2.2.2.2.2.2.2.2.2.2.2.2.2.2.2.2.2.1, hF.2.2.2.2.2.2.2.2.2.2.2.2.2.2.2.2.2.2.2.1, hF.2.2.2.2.2.2.2.2.2.2.2.2.2.2.2.2.2.2.2.2.1, hF.2.2.2.2.2.2.2.2.2.2.2.2.2.2.2.2.2.2.2.2.2.1, fun _ => rfl, hF.2.2.2.2.2.2.2.2.2.2.2.2.2.2.2.2.2.2.2.2.2.2.2.1, hF.2.2.2.2.2.2.2.2.2.2.2.2.2.2.2.2.2.2.2.2.2.2.2.2.1, hF.2.2.2.2.2.2.2.2.2.2.2.2.2.2.2.2.2.2.2.2.2.2.2.2.2.1, hF.2.2.2.2.2.2.2.2.2.2.2.2.2.2.2.2.2.2.2.2.2.2.2.2.2.2.1, hF.2.2.2.2.2.2.2.2.2.2.2.2.2.2.2.2.2.2.2.2.2.2.2.2.2.2.2.1, hF.2.2.2.2.2.2.2.2.2.2.2.2.2.2.2.2.2.2.2.2.2.2.2.2.2.2.2.2.1, hF.2.2.2.2.2.2.2.2.2.2.2.2.2.2.2.2.2.2.2.2.2.2.2.2.2.2.2.2.2.1, hF.2.2.2.2.2.2.2.2.2.2.2.2.2.2.2.2.2.2.2.2.2.2.2.2.2.2.2.2.2.2.1, hF.2.2.2.2.2.2.2.2.2.2.2.2.2.2.2.2.2.2.2.2.2.2.2.2.2.2.2.2.2.2.2⟩, hW⟩
        refine StepsI.cons rfl ?_ ?_
        ·rintro L zA va ⟨zB, zS, rfl, rfl, hF, hW⟩ hL hm K hK
         have hb23 : zB 23 = false := by simpa using hL
         have hb22 : zB 22 = true := mt 22 hm (by kernel_rfl)
         have e22 : zS 61 = .pointer (some ⟨Xn, 0, none⟩) := hF.2.2.2.2.2.2.2.2.2.2.2.2.2.2.2.2.2.2.2.2.2.2.1 hb22
         clear hL hm
         simp only [pE]
         simp only [e22]
         have HWz := mkHid hW
         clear hW
         go_simp
         have hW := HWz.out
         clear HWz
         exact hK.out _ _ ⟨fun zj => if zj = 22 then true else if zj = 23 then true else zB zj, fun zd => if zd = 62 then .pointer (some ⟨Xn, 0, none⟩) else if zd = 61 then .pointer (some ⟨Xn, 0, none⟩) else zS zd, by simp [hb22], by kernel_rfl, ⟨hF.1, hF.2.1, hF.2.2.1, hF.2.2.2.1, hF.2.2.2.2.1, hF.2.2.2.2.2.1, hF.2.2.2.2.2.2.1, hF.2.2.2.2.2.2.2.1, hF.2.2.2.2.2.2.2.2.1, hF.2.2.2.2.2.2.2.2.2.1, hF.2.2.2.2.2.2.2.2.2.2.1, hF.2.2.2.2.2.2.2.2.2.2.2.1, hF.2.2.2.2.2.2.2.2.2.2.2.2.1, hF.2.2.2.2.2.2.2.2.2.2.2.2.2.1, hF.2.2.2.2.2.2.2.2.2.2.2.2.2.2.1, hF.2.2.2.2.2.2.2.2.2.2.2.2.2.2.2.1, hF.2.2.2.2.2.2.2.2.2.2.2.2.2.2.2.2.1, hF.2.2.2.2.2.2.2.2.2.2.2.2.2.2.2.2.2.1, hF.2.2.2.2.2.2.2.2.2.2.2.2.2.2.2.2.2.2.1, hF.2.2.2.2.2.2.2.2.2.2.2.2.2.2.2.2.2.2.2.1, hF.2.2.2.2.2.2.2.2.2.2.2.2.2.2.2.2.2.2.2.2.1, hF.2.2.2.2.2.2.2.2.2.2.2.2.2.2.2.2.2.2.2.2.2.1, fun _ => rfl, fun _ => rfl, hF.2.2.2.2.2.2.2.2.2.2.2.2.2.2.2.2.2.2.2.2.2.2.2.2.1, hF.2.2.2.2.2.2.2.2.2.2.2.2.2.2.2.2.2.2.2.2.2.2.2.2.2.1, hF.2.2.2.2.2.2.2.2.2.2.2.2.2.2.2.2.2.2.2.2.2.2.2.2.2.2.1, hF.2.2.2.2.2.2.2.2.2.2.2.2.2.2.2.2.2.2.2.2.2.2.2.2.2.2.2.1, hF.2.2.2.2.2.2.2.2.2.2.2.2.2.2.2.2.2.2.2.2.2.2.2.2.2.2.2.2.1, hF.2.2.2.2.2.2.2.2.2.2.2.2.2.2.2.2.2.2.2.2.2.2.2.2.2.2.2.2.2.1, hF.2.2.2.2.2.2.2.2.2.2.2.2.2.2.2.2.2.2.2.2.2.2.2.2.2.2.2.2.2.2.1, hF.2.2.2.2.2.2.2.2.2.2.2.2.2.2.2.2.2.2.2.2.2.2.2.2.2.2.2.2.2.2.2⟩, hW⟩
        refine StepsI.cons rfl ?_ ?_
        ·rintro L zA va ⟨zB, zS, rfl, rfl, hF, hW⟩ hL hm K hK
         have hb24 : zB 24 = false := by simpa using hL
         have hb23 : zB 23 = true := mt 23 hm (by kernel_rfl)
         have e23 : zS 62 = .pointer (some ⟨Xn, 0, none⟩) := hF.2.2.2.2.2.2.2.2.2.2.2.2.2.2.2.2.2.2.2.2.2.2.2.1 hb23
         clear hL hm
         simp only [pE]
         simp only [e23]
         have HWz := mkHid hW
         clear hW
         go_simp
         have hW := HWz.out
         clear HWz
         exact hK.out _ _ ⟨fun zj => if zj = 23 then true else if zj = 24 then true else zB zj, fun zd => if zd = 63 then .pointer (some ⟨Xn, 6, none⟩) else if zd = 62 then .pointer (some ⟨Xn, 0, none⟩) else zS zd, by simp [hb23], by kernel_rfl, ⟨hF.1, hF.2.1, hF.2.2.1, hF.2.2.2.1, hF.2.2.2.2.1, hF.2.2.2.2.2.1, hF.2.2.2.2.2.2.1, hF.2.2.2.2.2.2.2.1, hF.2.2.2.2.2.2.2.2.1, hF.2.2.2.2.2.2.2.2.2.1, hF.2.2.2.2.2.2.2.2.2.2.1, hF.2.2.2.2.2.2.2.2.2.2.2.1, hF.2.2.2.2.2.2.2.2.2.2.2.2.1, hF.2.2.2.2.2.2.2.2.2.2.2.2.2.1, hF.2.2.2.2.2.2.2.2.2.2.2.2.2.2.1, hF.2.2.2.2.2.2.2.2.2.2.2.2.2.2.2.1, hF.2.2.2.2.2.2.2.2.2.2.2.2.2.2.2.2.1, hF.2.2.2.2.2.2.2.2.2.2.2.2.2.2.2.2.2.1, hF.2.2.2.2.2.2.2.2.2.2.2.2.2.2.2.2.2.2.1, hF.2.2.2.2.2.2.2.2.2.2.2.2.2.2.2.2.2.2.2.1, hF.2.2.2.2.2.2.2.2.2.2.2.2.2.2.2.2.2.2.2.2.1, hF.2.2.2.2.2.2.2.2.2.2.2.2.2.2.2.2.2.2.2.2.2.1, hF.2.2.2.2.2.2.2.2.2.2.2.2.2.2.2.2.2.2.2.2.2.2.1, fun _ => rfl, fun _ => rfl, hF.2.2.2.2.2.2.2.2.2.2.2.2.2.2.2.2.2.2.2.2.2.2.2.2.2.1, hF.2.2.2.2.2.2.2.2.2.2.2.2.2.2.2.2.2.2.2.2.2.2.2.2.2.2.1, hF.2.2.2.2.2.2.2.2.2.2.2.2.2.2.2.2.2.2.2.2.2.2.2.2.2.2.2.1, hF.2.2.2.2.2.2.2.2.2.2.2.2.2.2.2.2.2.2.2.2.2.2.2.2.2.2.2.2.1, hF.2.2.2.2.2.2.2.2.2.2.2.2.2.2.2.2.2.2.2.2.2.2.2.2.2.2.2.2.2.1, hF.2.2.2.2.2.2.2.2.2.2.2.2.2.2.2.2.2.2.2.2.2.2.2.2.2.2.2.2.2.2.1, hF.2.2.2.2.2.2.2.2.2.2.2.2.2.2.2.2.2.2.2.2.2.2.2.2.2.2.2.2.2.2.2⟩, hW⟩
        refine StepsI.cons rfl ?_ ?_
        ·rintro L zA va ⟨zB, zS, rfl, rfl, hF, hW⟩ hL hm K hK
         have hb25 : zB 25 = false := by simpa using hL
         have hb24 : zB 24 = true := mt 24 hm (by kernel_rfl)
         have e24 : zS 63 = .pointer (some ⟨Xn, 6, none⟩) := hF.2.2.2.2.2.2.2.2.2.2.2.2.2.2.2.2.2.2.2.2.2.2.2.2.1 hb24
         clear hL hm
         simp only [pE]
         simp only [e24]
         obtain ⟨_, _, n2, n3, n4, n5, n6, _, _, _, _, _, _, _⟩ := hnext va hW.1
         have HWz := mkHid hW
         clear hW
         go_simp
         have hW := HWz.out
         clear HWz
         exact hK.out _ _ ⟨fun zj => if zj = 24 then true else if zj = 25 then true else zB zj, fun zd => if zd = 64 then .pointer pp else if zd = 63 then .pointer (some ⟨Xn, 6, none⟩) else zS zd, by simp [hb24], by kernel_rfl, ⟨hF.1, hF.2.1, hF.2.2.1, hF.2.2.2.1, hF.2.2.2.2.1, hF.2.2.2.2.2.1, hF.2.2.2.2.2.2.1, hF.2.2.2.2.2.2.2.1, hF.2.2.2.2.2.2.2.2.1, hF.2.2.2.2.2.2.2.2.2.1, hF.2.2.2.2.2.2.2.2.2.2.1, hF.2.2.2.2.2.2.2.2.2.2.2.1, hF.2.2.2.2.2.2.2.2.2.2.2.2.1, hF.2.2.2.2.2.2.2.2.2.2.2.2.2.1, hF.2.2.2.2.2.2.2.2.2.2.2.2.2.2.1, hF.2.2.2.2.2.2.2.2.2.2.2.2.2.2.2.1, hF.2.2.2.2.2.2.2.2.2.2.2.2.2.2.2.2.1, hF.2.2.2.2.2.2.2.2.2.2.2.2.2.2.2.2.2.1, hF.2.2.2.2.2.2.2.2.2.2.2.2.2.2.2.2.2.2.1, hF.2.2.2.2.2.2.2.2.2.2.2.2.2.2.2.2.2.2.2.1, hF.2.2.2.2.2.2.2.2.2.2.2.2.2.2.2.2.2.2.2.2.1, hF.2.2.2.2.2.2.2.2.2.2.2.2.2.2.2.2.2.2.2.2.2.1, hF.2.2.2.2.2.2.2.2.2.2.2.2.2.2.2.2.2.2.2.2.2.2.1, hF.2.2.2.2.2.2.2.2.2.2.2.2.2.2.2.2.2.2.2.2.2.2.2.1, fun _ => rfl, fun _ => rfl, hF.2.2.2.2.2.2.2.2.2.2.2.2.2.2.2.2.2.2.2.2.2.2.2.2.2.2.1, hF.2.2.2.2.2.2.2.2.2.2.2.2.2.2.2.2.2.2.2.2.2.2.2.2.2.2.2.1, hF.2.2.2.2.2.2.2.2.2.2.2.2.2.2.2.2.2.2.2.2.2.2.2.2.2.2.2.2.1, hF.2.2.2.2.2.2.2.2.2.2.2.2.2.2.2.2.2.2.2.2.2.2.2.2.2.2.2.2.2.1, hF.2.2.2.2.2.2.2.2.2.2.2.2.2.2.2.2.2.2.2.2.2.2.2.2.2.2.2.2.2.2.1, hF.2.2.2.2.2.2.2.2.2.2.2.2.2.2.2.2.2.2.2.2.2.2.2.2.2.2.2.2.2.2.2⟩, hW⟩
        refine StepsI.cons rfl ?_ ?_
        ·rintro L zA va ⟨zB, zS, rfl, rfl, hF, hW⟩ hL hm K hK
         have hb26 : zB 26 = false := by simpa using hL
         have hb0 : zB 0 = true := mt 0 hm (by kernel_rfl)
         have e0 : zS 39 = .pointer (some ⟨Xa, 0, none⟩) := hF.1 hb0
         clear hL hm
         simp only [pE]
         simp only [e0]
         have HWz := mkHid hW
         clear hW
         go_simp
         have hW := HWz.out
         clear HWz
         exact hK.out _ _ ⟨fun zj => if zj = 0 then true else if zj = 26 then true else zB zj, fun zd => if zd = 65 then .pointer (some ⟨Xa, 0, none⟩) else if zd = 39 then .pointer (some ⟨Xa, 0, none⟩) else zS zd, by simp [hb0], by kernel_rfl, ⟨fun _ => rfl, hF.2.1, hF.2.2.1, hF.2.2.2.1, hF.2.2.2.2.1, hF.2.2.2.2.2.1, hF.2.2.2.2.2.2.1, hF.2.2.2.2.2.2.2.1, hF.2.2.2.2.2.2.2.2.1, hF.2.2.2.2.2.2.2.2.2.1, hF.2.2.2.2.2.2.2.2.2.2.1, hF.2.2.2.2.2.2.2.2.2.2.2.1, hF.2.2.2.2.2.2.2.2.2.2.2.2.1, hF.2.2.2.2.2.2.2.2.2.2.2.2.2.1, hF.2.2.2.2.2.2.2.2.2.2.2.2.2.2.1, hF.2.2.2.2.2.2.2.2.2.2.2.2.2.2.2.1, hF.2.2.2.2.2.2.2.2.2.2.2.2.2.2.2.2.1, hF.2.2.2.2.2.2.2.2.2.2.2.2.2.2.2.2.2.1, hF.2.2.2.2.2.2.2.2.2.2.2.2.2.2.2.2.2.2.1, hF.2.2.2.2.2.2.2.2.2.2.2.2.2.2.2.2.2.2.2.1, hF.2.2.2.2.2.2.2.2.2.2.2.2.2.2.2.2.2.2.2.2.1, hF.2.2.2.2.2.2.2.2.2.2.2.2.2.2.2.2.2.2.2.2.2.1, hF.2.2.2.2.2.2.2.2.2.2.2.2.2.2.2.2.2.2.2.2.2.2.1, hF.2.2.2.2.2.2.2.2.2.2.2.2.2.2.2.2.2.2.2.2.2.2.2.1, hF.2.2.2.2.2.2.2.2.2.2.2.2.2.2.2.2.2.2.2.2.2.2.2.2.1, hF.2.2.2.2.2.2.2.2.2.2.2.2.2.2.2.2.2.2.2.2.2.2.2.2.2.1, fun _ => rfl, hF.2.2.2.2.2.2.2.2.2.2.2.2.2.2.2.2.2.2.2.2.2.2.2.2.2.2.2.1, hF.2.2.2.2.2.2.2.2.2.2.2.2.2.2.2.2.2.2.2.2.2.2.2.2.2.2.2.2.1, hF.2.2.2.2.2.2.2.2.2.2.2.2.2.2.2.2.2.2.2.2.2.2.2.2.2.2.2.2.2.1, hF.2.2.2.2.2.2.2.2.2.2.2.2.2.2.2.2.2.2.2.2.2.2.2.2.2.2.2.2.2.2.1, hF.2.2.2.2.2.2.2.2.2.2.2.2.2.2.2.2.2.2.2.2.2.2.2.2.2.2.2.2.2.2.2⟩, hW⟩
        refine StepsI.cons rfl ?_ ?_
        ·rintro L zA va ⟨zB, zS, rfl, rfl, hF, hW⟩ hL hm K hK
         have hb27 : zB 27 = false := by simpa using hL
         have hb26 : zB 26 = true := mt 26 hm (by kernel_rfl)
         have e26 : zS 65 = .pointer (some ⟨Xa, 0, none⟩) := hF.2.2.2.2.2.2.2.2.2.2.2.2.2.2.2.2.2.2.2.2.2.2.2.2.2.2.1 hb26
         clear hL hm
         simp only [pE]
         simp only [e26]
         have HWz := mkHid hW
         clear hW
         go_simp
         have hW := HWz.out
         clear HWz
         exact hK.out _ _ ⟨fun zj => if zj = 26 then true else if zj = 27 then true else zB zj, fun zd => if zd = 66 then .pointer (some ⟨Xa, 2, none⟩) else if zd = 65 then .pointer (some ⟨Xa, 0, none⟩) else zS zd, by simp [hb26], by kernel_rfl, ⟨hF.1, hF.2.1, hF.2.2.1, hF.2.2.2.1, hF.2.2.2.2.1, hF.2.2.2.2.2.1, hF.2.2.2.2.2.2.1, hF.2.2.2.2.2.2.2.1, hF.2.2.2.2.2.2.2.2.1, hF.2.2.2.2.2.2.2.2.2.1, hF.2.2.2.2.2.2.2.2.2.2.1, hF.2.2.2.2.2.2.2.2.2.2.2.1, hF.2.2.2.2.2.2.2.2.2.2.2.2.1, hF.2.2.2.2.2.2.2.2.2.2.2.2.2.1, hF.2.2.2.2.2.2.2.2.2.2.2.2.2.2.1, hF.2.2.2.2.2.2.2.2.2.2.2.2.2.2.2.1, hF.2.2.2.2.2.2.2.2.2.2.2.2.2.2.2.2.1, hF.2.2.2.2.2.2.2.2.2.2.2.2.2.2.2.2.2.1, hF.2.2.2.2.2.2.2.2.2.2.2.2.2.2.2.2.2.2.1, hF.2.2.2.2.2.2.2.2.2.2.2.2.2.2.2.2.2.2.2.1, hF.2.2.2.2.2.2.2.2.2.2.2.2.2.2.2.2.2.2.2.2.1, hF.2.2.2.2.2.2.2.2.2.2.2.2.2.2.2.2.2.2.2.2.2.1, hF.2.2.2.2.2.2.2.2.2.2.2.2.2.2.2.2.2.2.2.2.2.2.1, hF.2.2.2.2.2.2.2.2.2.2.2.2.2.2.2.2.2.2.2.2.2.2.2.1, hF.2.2.2.2.2.2.2.2.2.2.2.2.2.2.2.2.2.2.2.2.2.2.2.2.1, hF.2.2.2.2.2.2.2.2.2.2.2.2.2.2.2.2.2.2.2.2.2.2.2.2.2.1, fun _ => rfl, fun _ => rfl, hF.2.2.2.2.2.2.2.2.2.2.2.2.2.2.2.2.2.2.2.2.2.2.2.2.2.2.2.2.1, hF.2.2.2.2.2.2.2.2.2.2.2.2.2.2.2.2.2.2.2.2.2.2.2.2.2.2.2.2.2.1, hF.2.2.2.2.2.2.2.2.2.2.2.2.2.2.2.2.2.2.2.2.2.2.2.2.2.2.2.2.2.2.1, hF.2.2.2.2.2.2.2.2.2.2.2.2.2.2.2.2.2.2.2.2.2.2.2.2.2.2.2.2.2.2.2⟩, hW⟩
        refine StepsI.cons rfl ?_ ?_
        ·rintro L zA va ⟨zB, zS, rfl, rfl, hF, hW⟩ hL hm K hK
         have hb28 : zB 28 = false := by simpa using hL
         have hb6 : zB 6 = true := mt 6 hm (by kernel_rfl)
         have hb11 : zB 11 = true := mt 11 hm (by kernel_rfl)
         have hb15 : zB 15 = true := mt 15 hm (by kernel_rfl)
         have hb27 : zB 27 = true := mt 27 hm (by kernel_rfl)
         have e6 : zS 45 = .agg #[.int .i64 vv.1, .int .i64 vv.2.1, .bool vv.2.2] := hF.2.2.2.2.2.2.1 hb6
         have e11 : zS 50 = .agg #[.int .i64 vj.1, .int .i64 vj.2.1, .bool vj.2.2] := hF.2.2.2.2.2.2.2.2.2.2.2.1 hb11
         have e15 : zS 54 = .bool true := hF.2.2.2.2.2.2.2.2.2.2.2.2.2.2.2.1 hb15
         have e27 : zS 66 = .pointer (some ⟨Xa, 2, none⟩) := hF.2.2.2.2.2.2.2.2.2.2.2.2.2.2.2.2.2.2.2.2.2.2.2.2.2.2.2.1 hb27
         clear hL hm
         rw [hb28] at hW
         rw [hb6] at hW
         rw [hb15] at hW
         simp only [pE]
         simp only [e6, e11, e15, e27]
         have hC := hW.2.1
         obtain ⟨_, _, c2, c3, c4, c5, c6, _, _, f2, f3, f4, f5, f6⟩ := cel_of hC
         have HWz := mkHid hW
         clear hW
         go_simp
         have hW := HWz.out
         clear HWz
         exact hK.out _ _ ⟨fun zj => if zj = 27 then true else if zj = 15 then true else if zj = 11 then true else if zj = 6 then true else if zj = 28 then true else zB zj, fun zd => if zd = 66 then .pointer (some ⟨Xa, 2, none⟩) else if zd = 54 then .bool true else if zd = 50 then .agg #[.int .i64 vj.1, .int .i64 vj.2.1, .bool vj.2.2] else if zd = 45 then .agg #[.int .i64 vv.1, .int .i64 vv.2.1, .bool vv.2.2] else zS zd, by simp [hb6, hb11, hb15, hb27], by kernel_rfl, ⟨hF.1, hF.2.1, hF.2.2.1, hF.2.2.2.1, hF.2.2.2.2.1, hF.2.2.2.2.2.1, fun _ => rfl, hF.2.2.2.2.2.2.2.1, hF.2.2.2.2.2.2.2.2.1, hF.2.2.2.2.2.2.2.2.2.1, hF.2.2.2.2.2.2.2.2.2.2.1, fun _ => rfl, hF.2.2.2.2.2.2.2.2.2.2.2.2.1, hF.2.2.2.2.2.2.2.2.2.2.2.2.2.1, hF.2.2.2.2.2.2.2.2.2.2.2.2.2.2.1, fun _ => rfl, hF.2.2.2.2.2.2.2.2.2.2.2.2.2.2.2.2.1, hF.2.2.2.2.2.2.2.2.2.2.2.2.2.2.2.2.2.1, hF.2.2.2.2.2.2.2.2.2.2.2.2.2.2.2.2.2.2.1, hF.2.2.2.2.2.2.2.2.2.2.2.2.2.2.2.2.2.2.2.1, hF.2.2.2.2.2.2.2.2.2.2.2.2.2.2.2.2.2.2.2.2.1, hF.2.2.2.2.2.2.2.2.2.2.2.2.2.2.2.2.2.2.2.2.2.1, hF.2.2.2.2.2.2.2.2.2.2.2.2.2.2.2.2.2.2.2.2.2.2.1, hF.2.2.2.2.2.2.2.2.2.2.2.2.2.2.2.2.2.2.2.2.2.2.2.1, hF.2.2.2.2.2.2.2.2.2.2.2.2.2.2.2.2.2.2.2.2.2.2.2.2.1, hF.2.2.2.2.2.2.2.2.2.2.2.2.2.2.2.2.2.2.2.2.2.2.2.2.2.1, hF.2.2.2.2.2.2.2.2.2.2.2.2.2.2.2.2.2.2.2.2.2.2.2.2.2.2.1, fun _ => rfl, hF.2.2.2.2.2.2.2.2.2.2.2.2.2.2.2.2.2.2.2.2.2.2.2.2.2.2.2.2.1, hF.2.2.2.2.2.2.2.2.2.2.2.2.2.2.2.2.2.2.2.2.2.2.2.2.2.2.2.2.2.1, hF.2.2.2.2.2.2.2.2.2.2.2.2.2.2.2.2.2.2.2.2.2.2.2.2.2.2.2.2.2.2.1, hF.2.2.2.2.2.2.2.2.2.2.2.2.2.2.2.2.2.2.2.2.2.2.2.2.2.2.2.2.2.2.2⟩, ⟨(((hW.1.trans (Only.set _ _ _ _)).trans (Only.set _ _ _ _)).trans (Only.set _ _ _ _)), by rw [(heap_set_self (heap_set_self (heap_set_self hW.2.1 _ _) _ _) _ _)]; rfl, fun _ => ⟨rfl, rfl⟩, hW.2.2.2.1, hW.2.2.2.2⟩⟩
        refine StepsI.cons rfl ?_ ?_
        ·rintro L zA va ⟨zB, zS, rfl, rfl, hF, hW⟩ hL hm K hK
         have hb29 : zB 29 = false := by simpa using hL
         have hb1 : zB 1 = true := mt 1 hm (by kernel_rfl)
         have e1 : zS 40 = .pointer (some ⟨Xa, 0, none⟩) := hF.2.1 hb1
         clear hL hm
         simp only [pE]
         simp only [e1]
         have HWz := mkHid hW
         clear hW
         go_simp
         have hW := HWz.out
         clear HWz
         exact hK.out _ _ ⟨fun zj => if zj = 1 then true else if zj = 29 then true else zB zj, fun zd => if zd = 67 then .pointer (some ⟨Xa, 0, none⟩) else if zd = 40 then .pointer (some ⟨Xa, 0, none⟩) else zS zd, by simp [hb1], by kernel_rfl, ⟨hF.1, fun _ => rfl, hF.2.2.1, hF.2.2.2.1, hF.2.2.2.2.1, hF.2.2.2.2.2.1, hF.2.2.2.2.2.2.1, hF.2.2.2.2.2.2.2.1, hF.2.2.2.2.2.2.2.2.1, hF.2.2.2.2.2.2.2.2.2.1, hF.2.2.2.2.2.2.2.2.2.2.1, hF.2.2.2.2.2.2.2.2.2.2.2.1, hF.2.2.2.2.2.2.2.2.2.2.2.2.1, hF.2.2.2.2.2.2.2.2.2.2.2.2.2.1, hF.2.2.2.2.2.2.2.2.2.2.2.2.2.2.1, hF.2.2.2.2.2.2.2.2.2.2.2.2.2.2.2.1, hF.2.2.2.2.2.2.2.2.2.2.2.2.2.2.2.2.1, hF.2.2.2.2.2.2.2.2.2.2.2.2.2.2.2.2.2.1, hF.2.2.2.2.2.2.2.2.2.2.2.2.2.2.2.2.2.2.1, hF.2.2.2.2.2.2.2.2.2.2.2.2.2.2.2.2.2.2.2.1, hF.2.2.2.2.2.2.2.2.2.2.2.2.2.2.2.2.2.2.2.2.1, hF.2.2.2.2.2.2.2.2.2.2.2.2.2.2.2.2.2.2.2.2.2.1, hF.2.2.2.2.2.2.2.2.2.2.2.2.2.2.2.2.2.2.2.2.2.2.1, hF.2.2.2.2.2.2.2.2.2.2.2.2.2.2.2.2.2.2.2.2.2.2.2.1, hF.2.2.2.2.2.2.2.2.2.2.2.2.2.2.2.2.2.2.2.2.2.2.2.2.1, hF.2.2.2.2.2.2.2.2.2.2.2.2.2.2.2.2.2.2.2.2.2.2.2.2.2.1, hF.2.2.2.2.2.2.2.2.2.2.2.2.2.2.2.2.2.2.2.2.2.2.2.2.2.2.1, hF.2.2.2.2.2.2.2.2.2.2.2.2.2.2.2.2.2.2.2.2.2.2.2.2.2.2.2.1, fun _ => rfl, hF.2.2.2.2.2.2.2.2.2.2.2.2.2.2.2.2.2.2.2.2.2.2.2.2.2.2.2.2.2.1, hF.2.2.2.2.2.2.2.2.2.2.2.2.2.2.2.2.2.2.2.2.2.2.2.2.2.2.2.2.2.2.1, hF.2.2.2.2.2.2.2.2.2.2.2.2.2.2.2.2.2.2.2.2.2.2.2.2.2.2.2.2.2.2.2⟩, hW⟩
        refine StepsI.cons rfl ?_ ?_
        ·rintro L zA va ⟨zB, zS, rfl, rfl, hF, hW⟩ hL hm K hK
         have hb30 : zB 30 = false := by simpa using hL
         have hb29 : zB 29 = true := mt 29 hm (by kernel_rfl)
         have e29 : zS 67 = .pointer (some ⟨Xa, 0, none⟩) := hF.2.2.2.2.2.2.2.2.2.2.2.2.2.2.2.2.2.2.2.2.2.2.2.2.2.2.2.2.1 hb29
         clear hL hm
         simp only [pE]
         simp only [e29]
         have HWz := mkHid hW
         clear hW
         go_simp
         have hW := HWz.out
         clear HWz
         exact hK.out _ _ ⟨fun zj => if zj = 29 then true else if zj = 30 then true else zB zj, fun zd => if zd = 68 then .pointer (some ⟨Xa, 5, none⟩) else if zd = 67 then .pointer (some ⟨Xa, 0, none⟩) else zS zd, by simp [hb29], by kernel_rfl, ⟨hF.1, hF.2.1, hF.2.2.1, hF.2.2.2.1, hF.2.2.2.2.1, hF.2.2.2.2.2.1, hF.2.2.2.2.2.2.1, hF.2.2.2.2.2.2.2.1, hF.2.2.2.2.2.2.2.2.1, hF.2.2.2.2.2.2.2.2.2.1, hF.2.2.2.2.2.2.2.2.2.2.1, hF.2.2.2.2.2.2.2.2.2.2.2.1, hF.2.2.2.2.2.2.2.2.2.2.2.2.1, hF.2.2.2.2.2.2.2.2.2.2.2.2.2.1, hF.2.2.2.2.2.2.2.2.2.2.2.2.2.2.1, hF.2.2.2.2.2.2.2.2.2.2.2.2.2.2.2.1, hF.2.2.2.2.2.2.2.2.2.2.2.2.2.2.2.2.1, hF.2.2.2.2.2.2.2.2.2.2.2.2.2.2.2.2.2.1, hF.2.2.2.2.2.2.2.2.2.2.2.2.2.2.2.2.2.2.1, hF.2.2.2.2.2.2.2.2.2.2.2.2.2.2.2.2.2.2.2.1, hF.2.2.2.2.2.2.2.2.2.2.2.2.2.2.2.2.2.2.2.2.1, hF.2.2.2.2.2.2.2.2.2.2.2.2.2.2.2.2.2.2.2.2.2.1, hF.2.2.2.2.2.2.2.2.2.2.2.2.2.2.2.2.2.2.2.2.2.2.1, hF.2.2.2.2.2.2.2.2.2.2.2.2.2.2.2.2.2.2.2.2.2.2.2.1, hF.2.2.2.2.2.2.2.2.2.2.2.2.2.2.2.2.2.2.2.2.2.2.2.2.1, hF.2.2.2.2.2.2.2.2.2.2.2.2.2.2.2.2.2.2.2.2.2.2.2.2.2.1, hF.2.2.2.2.2.2.2.2.2.2.2.2.2.2.2.2.2.2.2.2.2.2.2.2.2.2.1, hF.2.2.2.2.2.2.2.2.2.2.2.2.2.2.2.2.2.2.2.2.2.2.2.2.2.2.2.1, fun _ => rfl, fun _ => rfl, hF.2.2.2.2.2.2.2.2.2.2.2.2.2.2.2.2.2.2.2.2.2.2.2.2.2.2.2.2.2.2.1, hF.2.2.2.2.2.2.2.2.2.2.2.2.2.2.2.2.2.2.2.2.2.2.2.2.2.2.2.2.2.2.2⟩, hW⟩
        refine StepsI.cons rfl ?_ ?_
        ·rintro L zA va ⟨zB, zS, rfl, rfl, hF, hW⟩ hL hm K hK
         have hb31 : zB 31 = false := by simpa using hL
         have hb6 : zB 6 = true := mt 6 hm (by kernel_rfl)
         have hb15 : zB 15 = true := mt 15 hm (by kernel_rfl)
         have hb21 : zB 21 = true := mt 21 hm (by kernel_rfl)
         have hb30 : zB 30 = true := mt 30 hm (by kernel_rfl)
         have e6 : zS 45 = .agg #[.int .i64 vv.1, .int .i64 vv.2.1, .bool vv.2.2] := hF.2.2.2.2.2.2.1 hb6
         have e15 : zS 54 = .bool true := hF.2.2.2.2.2.2.2.2.2.2.2.2.2.2.2.1 hb15
         have e21 : zS 60 = .bool mn := hF.2.2.2.2.2.2.2.2.2.2.2.2.2.2.2.2.2.2.2.2.2.1 hb21
         have e30 : zS 68 = .pointer (some ⟨Xa, 5, none⟩) := hF.2.2.2.2.2.2.2.2.2.2.2.2.2.2.2.2.2.2.2.2.2.2.2.2.2.2.2.2.2.1 hb30
         clear hL hm
         rw [hb31] at hW
         rw [hb6] at hW
         rw [hb15] at hW
         simp only [pE]
         simp only [e6, e15, e21, e30]
         have hC := hW.2.1
         obtain ⟨_, _, c2, c3, c4, c5, c6, _, _, f2, f3, f4, f5, f6⟩ := cel_of hC
         have HWz := mkHid hW
         clear hW
         go_simp
         have hW := HWz.out
         clear HWz
         exact hK.out _ _ ⟨fun zj => if zj = 30 then true else if zj = 21 then true else if zj = 15 then true else if zj = 6 then true else if zj = 31 then true else zB zj, fun zd => if zd = 68 then .pointer (some ⟨Xa, 5, none⟩) else if zd = 60 then .bool mn else if zd = 54 then .bool true else if zd = 45 then .agg #[.int .i64 vv.1, .int .i64 vv.2.1, .bool vv.2.2] else zS zd, by simp [hb6, hb15, hb21, hb30], by kernel_rfl, ⟨hF.1, hF.2.1, hF.2.2.1, hF.2.2.2.1, hF.2.2.2.2.1, hF.2.2.2.2.2.1, fun _ => rfl, hF.2.2.2.2.2.2.2.1, hF.2.2.2.2.2.2.2.2.1, hF.2.2.2.2.2.2.2.2.2.1, hF.2.2.2.2.2.2.2.2.2.2.1, hF.2.2.2.2.2.2.2.2.2.2.2.1, hF.2.2.2.2.2.2.2.2.2.2.2.2.1, hF.2.2.2.2.2.2.2.2.2.2.2.2.2.1, hF.2.2.2.2.2.2.2.2.2.2.2.2.2.2.1, fun _ => rfl, hF.2.2.2.2.2.2.2.2.2.2.2.2.2.2.2.2.1, hF.2.2.2.2.2.2.2.2.2.2.2.2.2.2.2.2.2.1, hF.2.2.2.2.2.2.2.2.2.2.2.2.2.2.2.2.2.2.1, hF.2.2.2.2.2.2.2.2.2.2.2.2.2.2.2.2.2.2.2.1, hF.2.2.2.2.2.2.2.2.2.2.2.2.2.2.2.2.2.2.2.2.1, fun _ => rfl, hF.2.2.2.2.2.2.2.2.2.2.2.2.2.2.2.2.2.2.2.2.2.2.1, hF.2.2.2.2.2.2.2.2.2.2.2.2.2.2.2.2.2.2.2.2.2.2.2.1, hF.2.2.2.2.2.2.2.2.2.2.2.2.2.2.2.2.2.2.2.2.2.2.2.2.1, hF.2.2.2.2.2.2.2.2.2.2.2.2.2.2.2.2.2.2.2.2.2.2.2.2.2.1, hF.2.2.2.2.2.2.2.2.2.2.2.2.2.2.2.2.2.2.2.2.2.2.2.2.2.2.1, hF.2.2.2.2.2.2.2.2.2.2.2.2.2.2.2.2.2.2.2.2.2.2.2.2.2.2.2.1, hF.2.2.2.2.2.2.2.2.2.2.2.2.2.2.2.2.2.2.2.2.2.2.2.2.2.2.2.2.1, fun _ => rfl, hF.2.2.2.2.2.2.2.2.2.2.2.2.2.2.2.2.2.2.2.2.2.2.2.2.2.2.2.2.2.2.1, hF.2.2.2.2.2.2.2.2.2.2.2.2.2.2.2.2.2.2.2.2.2.2.2.2.2.2.2.2.2.2.2⟩, ⟨(hW.1.trans (Only.set _ _ _ _)), by rw [(heap_set_self hW.2.1 _ _)]; rfl, hW.2.2.1, fun _ => ⟨rfl, rfl⟩, hW.2.2.2.2⟩⟩
        refine StepsI.cons rfl ?_ ?_
        ·rintro L zA va ⟨zB, zS, rfl, rfl, hF, hW⟩ hL hm K hK
         have hb32 : zB 32 = false := by simpa using hL
         have hb2 : zB 2 = true := mt 2 hm (by kernel_rfl)
         have e2 : zS 41 = .pointer (some ⟨Xa, 0, none⟩) := hF.2.2.1 hb2
         clear hL hm
         simp only [pE]
         simp only [e2]
         have HWz := mkHid hW
         clear hW
         go_simp
         have hW := HWz.out
         clear HWz
         exact hK.out _ _ ⟨fun zj => if zj = 2 then true else if zj = 32 then true else zB zj, fun zd => if zd = 69 then .pointer (some ⟨Xa, 0, none⟩) else if zd = 41 then .pointer (some ⟨Xa, 0, none⟩) else zS zd, by simp [hb2], by kernel_rfl, ⟨hF.1, hF.2.1, fun _ => rfl, hF.2.2.2.1, hF.2.2.2.2.1, hF.2.2.2.2.2.1, hF.2.2.2.2.2.2.1, hF.2.2.2.2.2.2.2.1, hF.2.2.2.2.2.2.2.2.1, hF.2.2.2.2.2.2.2.2.2.1, hF.2.2.2.2.2.2.2.2.2.2.1, hF.2.2.2.2.2.2.2.2.2.2.2.1, hF.2.2.2.2.2.2.2.2.2.2.2.2.1, hF.2.2.2.2.2.2.2.2.2.2.2.2.2.1, hF.2.2.2.2.2.2.2.2.2.2.2.2.2.2.1, hF.2.2.2.2.2.2.2.2.2.2.2.2.2.2.2.1, hF.2.2.2.2.2.2.2.2.2.2.2.2.2.2.2.2.1, hF.2.2.2.2.2.2.2.2.2.2.2.2.2.2.2.2.2.1, hF.2.2.2.2.2.2.2.2.2.2.2.2.2.2.2.2.2.2.1, hF.2.2.2.2.2.2.2.2.2.2.2.2.2.2.2.2.2.2.2.1, hF.2.2.2.2.2.2.2.2.2.2.2.2.2.2.2.2.2.2.2.2.1, hF.2.2.2.2.2.2.2.2.2.2.2.2.2.2.2.2.2.2.2.2.2.1, hF.2.2.2.2.2.2.2.2.2.2.2.2.2.2.2.2.2.2.2.2.2.2.1, hF.2.2.2.2.2.2.2.2.2.2.2.2.2.2.2.2.2.2.2.2.2.2.2.1, hF.2.2.2.2.2.2.2.2.2.2.2.2.2.2.2.2.2.2.2.2.2.2.2.2.1, hF.2.2.2.2.2.2.2.2.2.2.2.2.2.2.2.2.2.2.2.2.2.2.2.2.2.1, hF.2.2.2.2.2.2.2.2.2.2.2.2.2.2.2.2.2.2.2.2.2.2.2.2.2.2.1, hF.2.2.2.2.2.2.2.2.2.2.2.2.2.2.2.2.2.2.2.2.2.2.2.2.2.2.2.1, hF.2.2.2.2.2.2.2.2.2.2.2.2.2.2.2.2.2.2.2.2.2.2.2.2.2.2.2.2.1, hF.2.2.2.2.2.2.2.2.2.2.2.2.2.2.2.2.2.2.2.2.2.2.2.2.2.2.2.2.2.1, fun _ => rfl, hF.2.2.2.2.2.2.2.2.2.2.2.2.2.2.2.2.2.2.2.2.2.2.2.2.2.2.2.2.2.2.2⟩, hW⟩
        refine StepsI.cons rfl ?_ ?_
        ·rintro L zA va ⟨zB, zS, rfl, rfl, hF, hW⟩ hL hm K hK
         have hb33 : zB 33 = false := by simpa using hL
         have hb32 : zB 32 = true := mt 32 hm (by kernel_rfl)
         have e32 : zS 69 = .pointer (some ⟨Xa, 0, none⟩) := hF.2.2.2.2.2.2.2.2.2.2.2.2.2.2.2.2.2.2.2.2.2.2.2.2.2.2.2.2.2.2.1 hb32
         clear hL hm
         simp only [pE]
         simp only [e32]
         have HWz := mkHid hW
         clear hW
         go_simp
         have hW := HWz.out
         clear HWz
         exact hK.out _ _ ⟨fun zj => if zj = 32 then true else if zj = 33 then true else zB zj, fun zd => if zd = 70 then .pointer (some ⟨Xa, 6, none⟩) else if zd = 69 then .pointer (some ⟨Xa, 0, none⟩) else zS zd, by simp [hb32], by kernel_rfl, ⟨hF.1, hF.2.1, hF.2.2.1, hF.2.2.2.1, hF.2.2.2.2.1, hF.2.2.2.2.2.1, hF.2.2.2.2.2.2.1, hF.2.2.2.2.2.2.2.1, hF.2.2.2.2.2.2.2.2.1, hF.2.2.2.2.2.2.2.2.2.1, hF.2.2.2.2.2.2.2.2.2.2.1, hF.2.2.2.2.2.2.2.2.2.2.2.1, hF.2.2.2.2.2.2.2.2.2.2.2.2.1, hF.2.2.2.2.2.2.2.2.2.2.2.2.2.1, hF.2.2.2.2.2.2.2.2.2.2.2.2.2.2.1, hF.2.2.2.2.2.2.2.2.2.2.2.2.2.2.2.1, hF.2.2.2.2.2.2.2.2.2.2.2.2.2.2.2.2.1, hF.2.2.2.2.2.2.2.2.2.2.2.2.2.2.2.2.2.1, hF.2.2.2.2.2.2.2.2.2.2.2.2.2.2.2.2.2.2.1, hF.2.2.2.2.2.2.2.2.2.2.2.2.2.2.2.2.2.2.2.1, hF.2.2.2.2.2.2.2.2.2.2.2.2.2.2.2.2.2.2.2.2.1, hF.2.2.2.2.2.2.2.2.2.2.2.2.2.2.2.2.2.2.2.2.2.1, hF.2.2.2.2.2.2.2.2.2.2.2.2.2.2.2.2.2.2.2.2.2.2.1, hF.2.2.2.2.2.2.2.2.2.2.2.2.2.2.2.2.2.2.2.2.2.2.2.1, hF.2.2.2.2.2.2.2.2.2.2.2.2.2.2.2.2.2.2.2.2.2.2.2.2.1, hF.2.2.2.2.2.2.2.2.2.2.2.2.2.2.2.2.2.2.2.2.2.2.2.2.2.1, hF.2.2.2.2.2.2.2.2.2.2.2.2.2.2.2.2.2.2.2.2.2.2.2.2.2.2.1, hF.2.2.2.2.2.2.2.2.2.2.2.2.2.2.2.2.2.2.2.2.2.2.2.2.2.2.2.1, hF.2.2.2.2.2.2.2.2.2.2.2.2.2.2.2.2.2.2.2.2.2.2.2.2.2.2.2.2.1, hF.2.2.2.2.2.2.2.2.2.2.2.2.2.2.2.2.2.2.2.2.2.2.2.2.2.2.2.2.2.1, fun _ => rfl, fun _ => rfl⟩, hW⟩
        refine StepsI.cons rfl ?_ ?_
        ·rintro L zA va ⟨zB, zS, rfl, rfl, hF, hW⟩ hL hm K hK
         have hb34 : zB 34 = false := by simpa using hL
         have hb6 : zB 6 = true := mt 6 hm (by kernel_rfl)
         have hb15 : zB 15 = true := mt 15 hm (by kernel_rfl)
         have hb25 : zB 25 = true := mt 25 hm (by kernel_rfl)
         have hb33 : zB 33 = true := mt 33 hm (by kernel_rfl)
         have e6 : zS 45 = .agg #[.int .i64 vv.1, .int .i64 vv.2.1, .bool vv.2.2] := hF.2.2.2.2.2.2.1 hb6
         have e15 : zS 54 = .bool true := hF.2.2.2.2.2.2.2.2.2.2.2.2.2.2.2.1 hb15
         have e25 : zS 64 = .pointer pp := hF.2.2.2.2.2.2.2.2.2.2.2.2.2.2.2.2.2.2.2.2.2.2.2.2.2.1 hb25
         have e33 : zS 70 = .pointer (some ⟨Xa, 6, none⟩) := hF.2.2.2.2.2.2.2.2.2.2.2.2.2.2.2.2.2.2.2.2.2.2.2.2.2.2.2.2.2.2.2 hb33
         clear hL hm
         rw [hb34] at hW
         rw [hb6] at hW
         rw [hb15] at hW
         simp only [pE]
         simp only [e6, e15, e25, e33]
         have hC := hW.2.1
         obtain ⟨_, _, c2, c3, c4, c5, c6, _, _, f2, f3, f4, f5, f6⟩ := cel_of hC
         have HWz := mkHid hW
         clear hW
         go_simp
         have hW := HWz.out
         clear HWz
         exact hK.out _ _ ⟨fun zj => if zj = 33 then true else if zj = 25 then true else if zj = 15 then true else if zj = 6 then true else if zj = 34 then true else zB zj, fun zd => if zd = 70 then .pointer (some ⟨Xa, 6, none⟩) else if zd = 64 then .pointer pp else if zd = 54 then .bool true else if zd = 45 then .agg #[.int .i64 vv.1, .int .i64 vv.2.1, .bool vv.2.2] else zS zd, by simp [hb6, hb15, hb25, hb33], by kernel_rfl, ⟨hF.1, hF.2.1, hF.2.2.1, hF.2.2.2.1, hF.2.2.2.2.1, hF.2.2.2.2.2.1, fun _ => rfl, hF.2.2.2.2.2.2.2.1, hF.2.2.2.2.2.2.2.2.1, hF.2.2.2.2.2.2.2.2.2.1, hF.2.2.2.2.2.2.2.2.2.2.1, hF.2.2.2.2.2.2.2.2.2.2.2.1, hF.2.2.2.2.2.2.2.2.2.2.2.2.1, hF.2.2.2.2.2.2.2.2.2.2.2.2.2.1, hF.2.2.2.2.2.2.2.2.2.2.2.2.2.2.1, fun _ => rfl, hF.2.2.2.2.2.2.2.2.2.2.2.2.2.2.2.2.1, hF.2.2.2.2.2.2.2.2.2.2.2.2.2.2.2.2.2.1, hF.2.2.2.2.2.2.2.2.2.2.2.2.2.2.2.2.2.2.1, hF.2.2.2.2.2.2.2.2.2.2.2.2.2.2.2.2.2.2.2.1, hF.2.2.2.2.2.2.2.2.2.2.2.2.2.2.2.2.2.2.2.2.1, hF.2.2.2.2.2.2.2.2.2.2.2.2.2.2.2.2.2.2.2.2.2.1, hF.2.2.2.2.2.2.2.2.2.2.2.2.2.2.2.2.2.2.2.2.2.2.1, hF.2.2.2.2.2.2.2.2.2.2.2.2.2.2.2.2.2.2.2.2.2.2.2.1, hF.2.2.2.2.2.2.2.2.2.2.2.2.2.2.2.2.2.2.2.2.2.2.2.2.1, fun _ => rfl, hF.2.2.2.2.2.2.2.2.2.2.2.2.2.2.2.2.2.2.2.2.2.2.2.2.2.2.1, hF.2.2.2.2.2.2.2.2.2.2.2.2.2.2.2.2.2.2.2.2.2.2.2.2.2.2.2.1, hF.2.2.2.2.2.2.2.2.2.2.2.2.2.2.2.2.2.2.2.2.2.2.2.2.2.2.2.2.1, hF.2.2.2.2.2.2.2.2.2.2.2.2.2.2.2.2.2.2.2.2.2.2.2.2.2.2.2.2.2.1, hF.2.2.2.2.2.2.2.2.2.2.2.2.2.2.2.2.2.2.2.2.2.2.2.2.2.2.2.2.2.2.1, fun _ => rfl⟩, ⟨(hW.1.trans (Only.set _ _ _ _)), by rw [(heap_set_self hW.2.1 _ _)]; rfl, hW.2.2.1, hW.2.2.2.1, fun _ => ⟨rfl, rfl⟩⟩⟩
        exact StepsI.nil (by kernel_rfl)
       ·rintro L zA va ⟨zB, zS, rfl, rfl, hF, hW⟩ hr
        have hu := all_up (by kernel_rfl) (N := 35) (by kernel_rfl) hr
        have hb0 : zB 0 = true := by simpa using hu 0 (by decide)
        have hb1 : zB 1 = true := by simpa using hu 1 (by decide)
        have hb2 : zB 2 = true := by simpa using hu 2 (by decide)
        have hb3 : zB 3 = true := by simpa using hu 3 (by decide)
        have hb4 : zB 4 = true := by simpa using hu 4 (by decide)
        have hb5 : zB 5 = true := by simpa using hu 5 (by decide)
        have hb6 : zB 6 = true := by simpa using hu 6 (by decide)
        have hb7 : zB 7 = true := by simpa using hu 7 (by decide)
        have hb8 : zB 8 = true := by simpa using hu 8 (by decide)
        have hb9 : zB 9 = true := by simpa using hu 9 (by decide)
        have hb10 : zB 10 = true := by simpa using hu 10 (by decide)
        have hb11 : zB 11 = true := by simpa using hu 11 (by decide)
        have hb12 : zB 12 = true := by simpa using hu 12 (by decide)
        have hb13 : zB 13 = true := by simpa using hu 13 (by decide)
        have hb14 : zB 14 = true := by simpa using hu 14 (by decide)
        have hb15 : zB 15 = true := by simpa using hu 15 (by decide)
        have hb16 : zB 16 = true := by simpa using hu 16 (by decide)
        have hb17 : zB 17 = true := by simpa using hu 17 (by decide)
        have hb18 : zB 18 = true := by simpa using hu 18 (by decide)
        have hb19 : zB 19 = true := by simpa using hu 19 (by decide)
        have hb20 : zB 20 = true := by simpa using hu 20 (by decide)
        have hb21 : zB 21 = true := by simpa using hu 21 (by decide)
        have hb22 : zB 22 = true := by simpa using hu 22 (by decide)
        have hb23 : zB 23 = true := by simpa using hu 23 (by decide)
        have hb24 : zB 24 = true := by simpa using hu 24 (by decide)
        have hb25 : zB 25 = true := by simpa using hu 25 (by decide)
        have hb26 : zB 26 = true := by simpa using hu 26 (by decide)
        have hb27 : zB 27 = true := by simpa using hu 27 (by decide)
        have hb28 : zB 28 = true := by simpa using hu 28 (by decide)
        have hb29 : zB 29 = true := by simpa using hu 29 (by decide)
        have hb30 : zB 30 = true := by simpa using hu 30 (by decide)
        have hb31 : zB 31 = true := by simpa using hu 31 (by decide)
        have hb32 : zB 32 = true := by simpa using hu 32 (by decide)
        have hb33 : zB 33 = true := by simpa using hu 33 (by decide)
        have hb34 : zB 34 = true := by simpa using hu 34 (by decide)
        have e0 : zS 39 = .pointer (some ⟨Xa, 0, none⟩) := hF.1 hb0
        have e1 : zS 40 = .pointer (some ⟨Xa, 0, none⟩) := hF.2.1 hb1
        have e2 : zS 41 = .pointer (some ⟨Xa, 0, none⟩) := hF.2.2.1 hb2
        have e3 : zS 42 = .pointer (some ⟨Xa, 0, none⟩) := hF.2.2.2.1 hb3
        have e4 : zS 43 = .pointer (some ⟨Xa, 0, none⟩) := hF.2.2.2.2.1 hb4
        have e5 : zS 44 = .pointer (some ⟨Xa, 2, none⟩) := hF.2.2.2.2.2.1 hb5
        have e6 : zS 45 = .agg #[.int .i64 vv.1, .int .i64 vv.2.1, .bool vv.2.2] := hF.2.2.2.2.2.2.1 hb6
        have e7 : zS 46 = .pointer (some ⟨Xn, 0, none⟩) := hF.2.2.2.2.2.2.2.1 hb7
        have e8 : zS 47 = .pointer (some ⟨Xn, 0, none⟩) := hF.2.2.2.2.2.2.2.2.1 hb8
        have e9 : zS 48 = .pointer (some ⟨Xn, 2, none⟩) := hF.2.2.2.2.2.2.2.2.2.1 hb9
        have e10 : zS 49 = .agg #[.int .i64 vn.1, .int .i64 vn.2.1, .bool vn.2.2] := hF.2.2.2.2.2.2.2.2.2.2.1 hb10
        have e11 : zS 50 = .agg #[.int .i64 vj.1, .int .i64 vj.2.1, .bool vj.2.2] := hF.2.2.2.2.2.2.2.2.2.2.2.1 hb11
        have e12 : zS 51 = .pointer (some ⟨Xa, 0, none⟩) := hF.2.2.2.2.2.2.2.2.2.2.2.2.1 hb12
        have e13 : zS 52 = .pointer (some ⟨Xa, 0, none⟩) := hF.2.2.2.2.2.2.2.2.2.2.2.2.2.1 hb13
        have e14 : zS 53 = .pointer (some ⟨Xa, 5, none⟩) := hF.2.2.2.2.2.2.2.2.2.2.2.2.2.2.1 hb14
        have e15 : zS 54 = .bool true := hF.2.2.2.2.2.2.2.2.2.2.2.2.2.2.2.1 hb15
        have e16 : zS 55 = .bool true := hF.2.2.2.2.2.2.2.2.2.2.2.2.2.2.2.2.1 hb16
        have e17 : zS 56 = .pointer (some ⟨Xn, 0, none⟩) := hF.2.2.2.2.2.2.2.2.2.2.2.2.2.2.2.2.2.1 hb17
        have e18 : zS 57 = .pointer (some ⟨Xn, 0, none⟩) := hF.2.2.2.2.2.2.2.2.2.2.2.2.2.2.2.2.2.2.1 hb18
        have e19 : zS 58 = .pointer (some ⟨Xn, 5, none⟩) := hF.2.2.2.2.2.2.2.2.2.2.2.2.2.2.2.2.2.2.2.1 hb19
        have e20 : zS 59 = .bool mn := hF.2.2.2.2.2.2.2.2.2.2.2.2.2.2.2.2.2.2.2.2.1 hb20
        have e21 : zS 60 = .bool mn := hF.2.2.2.2.2.2.2.2.2.2.2.2.2.2.2.2.2.2.2.2.2.1 hb21
        have e22 : zS 61 = .pointer (some ⟨Xn, 0, none⟩) := hF.2.2.2.2.2.2.2.2.2.2.2.2.2.2.2.2.2.2.2.2.2.2.1 hb22
        have e23 : zS 62 = .pointer (some ⟨Xn, 0, none⟩) := hF.2.2.2.2.2.2.2.2.2.2.2.2.2.2.2.2.2.2.2.2.2.2.2.1 hb23
        have e24 : zS 63 = .pointer (some ⟨Xn, 6, none⟩) := hF.2.2.2.2.2.2.2.2.2.2.2.2.2.2.2.2.2.2.2.2.2.2.2.2.1 hb24
        have e25 : zS 64 = .pointer pp := hF.2.2.2.2.2.2.2.2.2.2.2.2.2.2.2.2.2.2.2.2.2.2.2.2.2.1 hb25
        have e26 : zS 65 = .pointer (some ⟨Xa, 0, none⟩) := hF.2.2.2.2.2.2.2.2.2.2.2.2.2.2.2.2.2.2.2.2.2.2.2.2.2.2.1 hb26
        have e27 : zS 66 = .pointer (some ⟨Xa, 2, none⟩) := hF.2.2.2.2.2.2.2.2.2.2.2.2.2.2.2.2.2.2.2.2.2.2.2.2.2.2.2.1 hb27
        have e29 : zS 67 = .pointer (some ⟨Xa, 0, none⟩) := hF.2.2.2.2.2.2.2.2.2.2.2.2.2.2.2.2.2.2.2.2.2.2.2.2.2.2.2.2.1 hb29
        have e30 : zS 68 = .pointer (some ⟨Xa, 5, none⟩) := hF.2.2.2.2.2.2.2.2.2.2.2.2.2.2.2.2.2.2.2.2.2.2.2.2.2.2.2.2.2.1 hb30
        have e32 : zS 69 = .pointer (some ⟨Xa, 0, none⟩) := hF.2.2.2.2.2.2.2.2.2.2.2.2.2.2.2.2.2.2.2.2.2.2.2.2.2.2.2.2.2.2.1 hb32
        have e33 : zS 70 = .pointer (some ⟨Xa, 6, none⟩) := hF.2.2.2.2.2.2.2.2.2.2.2.2.2.2.2.2.2.2.2.2.2.2.2.2.2.2.2.2.2.2.2 hb33
        rw [hb6] at hW
        rw [hb15] at hW
        rw [hb28] at hW
        rw [hb31] at hW
        rw [hb34] at hW
        clear hu hr hF
        simp only [pE]
        simp only [e0, e1, e2, e3, e4, e5, e6, e7, e8, e9, e10, e11, e12, e13, e14, e15, e16, e17, e18, e19, e20, e21, e22, e23, e24, e25, e26, e27, e29, e30, e32, e33]
        clear e0 e1 e2 e3 e4 e5 e6 e7 e8 e9 e10 e11 e12 e13 e14 e15 e16 e17 e18 e19 e20 e21 e22 e23 e24 e25 e26 e27 e29 e30 e32 e33
        clear hb0 hb1 hb2 hb3 hb4 hb5 hb6 hb7 hb8 hb9 hb10 hb11 hb12 hb13 hb14 hb15 hb16 hb17 hb18 hb19 hb20 hb21 hb22 hb23 hb24 hb25 hb26 hb27 hb28 hb29 hb30 hb31 hb32 hb33 hb34
        clear zB zS
        have hO := hW.1
        have hH := hW.2.1
        clear hW
        simp only [sel] at hH
        have HF := mkHid (HTT.out va _ hO hH (by simp))
        clear hO hH hX0 hnext HTT
        go_wp2
        go_roundg R.length
        case measure => exact hgR
        case rel => exact ⟨P1, Xa, _, R, rfl, Nat.le_refl _, HF.out⟩
end Go.Proofs.YtodjmpocpfkpaaaGreat
