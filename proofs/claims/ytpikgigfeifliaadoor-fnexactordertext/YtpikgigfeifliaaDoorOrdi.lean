/-
  CONTRACT of the program's OrderText.
-/
import Derived.Test.YtpikgigfeifliaaDoorKee
import Derived.Lib.SmallJoins
import Derived.Lib.AppendIntMem
import Derived.Shelf.RegionOpen
namespace Go.Proofs.YtpikgigfeifliaaDoor
open Go.RowKit Go.Shelf
attribute [local go_sem] Oper.semAt_some

theorem OwnI.cap {w : World} {base : Nat} {ao : Option Addr} {n cap : Nat} {l : List Int} (h : OwnI w base (.slice ao n cap) l) : l.length ≤ cap := by
  rcases h.2 with ⟨e, h0⟩ | ⟨g, cap', cur, e, _, _, hc, _⟩
  · omega
  · simp at e
    obtain ⟨_, _, rfl⟩ := e
    exact hc
set_option maxRecDepth 100000 in
set_option maxHeartbeats 4000000 in
theorem iOrder_ok (p : Int) (es : List Ed) (a : Option Addr) (c : Nat) (w : World) (hl : KidsG w 0 a es) (htab : Lib.TabIs Tryd.prog w "internal/strconv.uint64pow10" .u64 Lib.pow10Tab) :
    Calls Tryd.prog 7 #[.agg #[.int .i64 p, .slice a es.length c]] w fun e w' => e = .returned (.string ⟨(orderT (lastsR p es) (lastsR p es).length).toArray⟩) ∧ Below w.heap.size w w' := by
  have HL := mkHid hl
  obtain ⟨gg, hgn⟩ := Option.isSome_iff_exists.1 (show (Tryd.prog.globalNamed "internal/strconv.uint64pow10").isSome = true by kernel_rfl)
  have HTB := mkHid (fun W (hW : Below w.heap.size w W) => Joins.tab_stays hgn htab hW (Nat.le_refl _))
  have B0 := mkHid (((Below.refl w.heap.size w).alloc (Nat.le_refl _) (.cells #[.int .i64 p, .slice a es.length c] 29)).alloc (by simp) (.cells #[.pointer none, .slice none 0 0] 42))
  have hlen := lastsR_le p es
  have hfw := fwd_lastsR p es
  obtain ⟨l, hll⟩ : ∃ l, lastsR p es = l := ⟨_, rfl⟩
  rw [hll] at hlen hfw ⊢
  have HLL := mkHid hll
  have HF := mkHid hfw
  clear hl hll hfw htab hgn
  refine (callsIn_wide (n := 5)).1 ?_
  refine callsIn_of_wp_marks Tryd.func7 rfl trivial ?_ rfl
  simp only [Tryd.ntmps7, List.size_toArray, List.length_cons, List.length_nil, Nat.reduceAdd, Nat.reduceSub, Array.replicate_succ, Array.replicate_zero, List.push_toArray, List.append_toArray, List.nil_append, List.cons_append]
  gi_wp2
  refine ⟨trivial, ?_⟩
  refine (callsIn_wide.2 (iLasts_ok p es a c _ (HL.out.below B0.out))).mono ?_
  rintro e w1 ⟨ga, gc, rfl, ho, hb1⟩
  rw [HLL.out] at ho ⊢
  have HO := mkHid ho
  have B1 := mkHid (below_step B0.out hb1)
  have hw1 : w.heap.size + 2 ≤ w1.heap.size := by have := hb1.size; simp at this; omega
  clear ho
  obtain ⟨w2, hw2⟩ : ∃ w2, w1.alloc (.cells #[.slice ga l.length gc] 43) = w2 := ⟨_, rfl⟩
  have s2 : w2.heap.size = w1.heap.size + 1 := by rw [← hw2]; simp
  have B2 : Hid (Below w1.heap.size w1 w2) := mkHid (by rw [← hw2]; exact (Below.refl _ _).alloc (Nat.le_refl _) _)
  have HA2 : Hid (w2.heap[w1.heap.size]? = some (.cells #[.slice ga l.length gc] 43 (0, 0))) := mkHid (by rw [← hw2]; exact heap_alloc_new w1 _)
  have HU2 : Hid (Lib.IsBuilderF 42 5 (w.heap.size + 1) (w.heap.size + 1) (Lib.byteCells (orderT l 0)) w2) := mkHid (by
    refine .inl ⟨Nat.le_refl _, .slice none 0 0, (B2.out.block _ (by omega)).trans ((hb1.block _ (by simp)).trans ?_), World.ownsRowF_nil _ _ _ _, by simp [Value.ownBlock]⟩
    have := heap_alloc_new (w.alloc (.cells #[.int .i64 p, .slice a es.length c] 29)) (.cells #[.pointer none, .slice none 0 0] 42)
    simpa using this)
  have HBB : Hid (Below w.heap.size w w2) := mkHid (below_step B1.out B2.out)
  have HW2 := mkHid hw2
  clear hb1 hw2
  gi_wp2
  rw [HW2.out]
  refine wpIn_loop (fun A W => ∃ (k : Nat) (Ds : List Nat) (u5 u6 u12 u13 u14 u15 u16 u17 u18 u19 u20 u21 u22 u23 u24 u25 u26 u27 u28 u29 u30 u31 u32 u33 u34 u35 u36 : Value), k ≤ l.length ∧
      A = { tmps := #[.agg #[.int .i64 p, .slice a es.length c], .pointer (some ⟨w.heap.size, 0, none⟩), .string ⟨#[]⟩, .pointer (some ⟨w.heap.size + 1, 0, none⟩), .pointer (some ⟨w1.heap.size, 0, none⟩), u5, u6, .agg #[.int .i64 p, .slice a es.length c], .slice ga l.length gc, .slice ga l.length gc, .int .i64 l.length, .int .i64 k, u12, u13, u14, u15, u16, u17, u18, u19, u20, u21, u22, u23, u24, u25, u26, u27, u28, u29, u30, u31, u32, u33, u34, u35, u36], defers := Ds.map markD } ∧
      Lib.IsBuilderF 42 5 (w.heap.size + 1) (w.heap.size + 1) (Lib.byteCells (orderT l k)) W ∧ Keep (w.heap.size + 1) w2.heap.size w2 W ∧ Ds.Nodup ∧ (∀ D ∈ Ds, w2.heap.size ≤ D ∧ W.heap[D]? = some (.deferred (some []))) ∧ Below w.heap.size w W)
    (fun A _ => l.length - (intOf (A.tmps.getD 11 undef)).toNat) ?_ ?_
  · exact ⟨0, [], _, _, _, _, _, _, _, _, _, _, _, _, _, _, _, _, _, _, _, _, _, _, _, _, _, _, _, Nat.zero_le _, rfl, HU2.out, Keep.refl _ _ _, List.nodup_nil, fun D h => by simp at h, HBB.out⟩
  · rintro A W ⟨k, Ds, u5, u6, u12, u13, u14, u15, u16, u17, u18, u19, u20, u21, u22, u23, u24, u25, u26, u27, u28, u29, u30, u31, u32, u33, u34, u35, u36, hk, rfl, hbu, hkeep, hnd, hds, hbel⟩
    by_cases hlt : k < l.length
    · obtain ⟨x, hx⟩ : ∃ x, l[k]? = some x := ⟨_, List.getElem?_eq_getElem hlt⟩
      obtain ⟨g, cur, rfl, hg1, hg2, hgb, hgc⟩ : ∃ g cur, ga = some ⟨g, 0, none⟩ ∧ w.heap.size + 2 ≤ g ∧ g < w1.heap.size ∧ w1.heap[g]? = some (.cells cur 3 (0, 0)) ∧ (∀ (i : Nat) (x : Int), l[i]? = some x → w1.cell? ⟨g, 0 + i, none⟩ = some (.int .i64 x)) := by
        rcases HO.out.at with h | ⟨b, o, rfl, h⟩
        · subst h; simp at hlt
        · rcases HO.out.2 with ⟨e, _⟩ | ⟨g', _, cur, e, hbase, hblk, _⟩
          · simp at e
          · simp at e
            obtain ⟨⟨rfl, rfl⟩, _⟩ := e
            exact ⟨b, cur, rfl, by simp at hbase; omega, (World.ownsRow.lt HO.out b rfl).2, hblk, h⟩
      have hcap := HO.out.cap
      have hsz : w2.heap.size ≤ W.heap.size := hkeep.2.2.2.1
      obtain ⟨W1, hW1⟩ : ∃ W1, W.alloc (.cells #[.int .i64 k] 3) = W1 := ⟨_, rfl⟩
      have s1 : W1.heap.size = W.heap.size + 1 := by rw [← hW1]; simp
      have b1 : Below W.heap.size W W1 := by rw [← hW1]; exact (Below.refl _ _).alloc (Nat.le_refl _) _
      have hp1 : W1.heap[W.heap.size]? = some (.cells #[.int .i64 k] 3 (0, 0)) := by rw [← hW1]; exact heap_alloc_new W _
      have hgW : W1.heap[g]? = some (.cells cur 3 (0, 0)) := (b1.block g (by omega)).trans (hkeep.at ((B2.out.block g hg2).trans hgb) (by decide) (by omega) (by omega))
      have haW : W1.heap[w1.heap.size]? = some (.cells #[.slice (some ⟨g, 0, none⟩) l.length gc] 43 (0, 0)) := (b1.block _ (by omega)).trans (hkeep.at HA2.out (by decide) (by omega) (by omega))
      have RD : Hid (∀ V, Keep (w.heap.size + 1) W1.heap.size W1 V → V.heap[W.heap.size]? = some (.cells #[.int .i64 k] 3 (0, 0)) ∧ V.heap[w1.heap.size]? = some (.cells #[.slice (some ⟨g, 0, none⟩) l.length gc] 43 (0, 0)) ∧ V.heap[g]? = some (.cells cur 3 (0, 0))) :=
        mkHid fun V hV => ⟨hV.at hp1 (by decide) (by omega) (by omega), hV.at haW (by decide) (by omega) (by omega), hV.at hgW (by decide) (by omega) (by omega)⟩
      have GC : Hid (∀ V : World, V.heap[g]? = some (.cells cur 3 (0, 0)) → ∀ (i : Nat) (x : Int), l[i]? = some x → V.cell? ⟨g, 0 + i, none⟩ = some (.int .i64 x)) :=
        mkHid fun V hV i x hx => (World.cell?_of_block (w := w1) (hV.trans hgb.symm)).trans (hgc i x hx)
      have U1 := mkHid (builder_below hbu b1)
      have K1 := mkHid (Keep.refl (w.heap.size + 1) W1.heap.size W1)
      have BW := mkHid (below_step hbel b1)
      have KW : Hid (∀ V, Keep (w.heap.size + 1) W1.heap.size W1 V → Keep (w.heap.size + 1) w2.heap.size w2 V) := mkHid fun V hV => hkeep.trans ((Keep.of_below b1 hsz).trans (hV.mono (by omega)))
      have HDS : Hid (∀ V, Keep (w.heap.size + 1) W1.heap.size W1 V → ∀ D ∈ Ds, D < W.heap.size ∧ w2.heap.size ≤ D ∧ V.heap[D]? = some (.deferred (some []))) := mkHid fun V hV D hD => by
        obtain ⟨h1, h2⟩ := hds D hD
        have h3 := (Array.getElem?_eq_some_iff.1 h2).1
        exact ⟨h3, h1, hV.deferred ((b1.block D h3).trans h2) (by omega) (by omega)⟩
      have hol := orderT_len l hlen k (by omega)
      have hdk := dec_size k
      have k1 : (k : Int) < (l.length : Int) := by omega
      have IT : Hid (∀ V, Below w.heap.size w V → Calls Tryd.prog 18 #[.int .i64 k] V fun e w' => e = .returned (.string (dec k)) ∧ Below V.heap.size V w') := mkHid fun V hV => by
        refine (Tryd.strconv_Itoa k (by omega) (by omega) V (HTB.out V hV)).mono ?_
        rintro e w' ⟨rfl, kd, os, hw'⟩
        refine ⟨?_, ?_⟩
        · have hit : (ByteArray.mk (Lib.itoa (k : Int)).toArray) = dec k := by unfold dec Lib.itoa; rw [if_neg (by omega)]; simp
          rw [hit]
        · have := Lib.below_grow _ V (Nat.le_refl _) kd os
          rw [← hw'] at this
          exact this
      have HX := mkHid hx
      have HW1 := mkHid hW1
      clear hx hbu hkeep hds hbel hgb hgc b1 hp1 hgW haW hW1
      by_cases hk0 : 0 < (k : Int)
      · by_cases hx0 : 0 ≤ x
        · have q0 := RD.out _ K1.out
          have qp0 : World.cell? W1 ⟨W.heap.size, 0, none⟩ = some (.int .i64 k) := Lib.cell_of_heap q0.1 0
          have qa0 : World.cell? W1 ⟨w1.heap.size, 0, none⟩ = some (.slice (some ⟨g, 0, none⟩) l.length gc) := Lib.cell_of_heap q0.2.1 0
          have qg0 : World.cell? W1 ⟨g, 0 + k, none⟩ = some (.int .i64 x) := GC.out _ q0.2.2 k x HX.out
          clear q0
          gi_wp2
          refine ⟨trivial, ?_⟩
          rw [HW1.out]
          refine (callsIn_wide.2 (writeByte_any (w.heap.size + 1) (w.heap.size + 1) _ 32 _ U1.out (by rw [Lib.byteCells_length]; omega) (by omega))).mono ?_
          rintro e V1 ⟨rfl, hu, hb, hk'⟩
          have U2 : Hid (Lib.IsBuilderF 42 5 (w.heap.size + 1) (w.heap.size + 1) (Lib.byteCells (orderT l k ++ [32])) V1) := mkHid (by rw [Lib.byteCells_append]; exact .inr hu)
          have K2 := mkHid (K1.out.trans (Keep.of_others hb hk'))
          have BV2 := mkHid (BW.out.trans (hb.mono (by omega)))
          have z2 : W1.heap.size ≤ V1.heap.size := hb.size
          clear hu hb hk' qp0 qa0 qg0
          have q1 := RD.out _ K2.out
          have qp1 : World.cell? V1 ⟨W.heap.size, 0, none⟩ = some (.int .i64 k) := Lib.cell_of_heap q1.1 0
          have qa1 : World.cell? V1 ⟨w1.heap.size, 0, none⟩ = some (.slice (some ⟨g, 0, none⟩) l.length gc) := Lib.cell_of_heap q1.2.1 0
          have qg1 : World.cell? V1 ⟨g, 0 + k, none⟩ = some (.int .i64 x) := GC.out _ q1.2.2 k x HX.out
          clear q1
          gi_wp2
          refine ⟨trivial, ?_⟩
          refine (callsIn_wide.2 (isHead_yes l.length gc g 0 k x _ k1 qg1 (by omega))).mono ?_
          rintro e V' ⟨rfl, rfl⟩
          gi_wp2
          refine ⟨trivial, ?_⟩
          refine (callsIn_wide.2 (writeByte_any (w.heap.size + 1) (w.heap.size + 1) _ 40 _ U2.out (by rw [Lib.byteCells_length]; (try simp); omega) (by omega))).mono ?_
          rintro e V3 ⟨rfl, hu, hb, hk'⟩
          have U3 : Hid (Lib.IsBuilderF 42 5 (w.heap.size + 1) (w.heap.size + 1) (Lib.byteCells (orderT l k ++ [32] ++ [40])) V3) := mkHid (by rw [Lib.byteCells_append]; exact .inr hu)
          have K3 := mkHid (K2.out.trans (Keep.of_others hb hk'))
          have BV3 := mkHid (BV2.out.trans (hb.mono (by omega)))
          have z3 : V1.heap.size ≤ V3.heap.size := hb.size
          clear hu hb hk' qp1 qa1 qg1
          have q3 := RD.out _ K3.out
          have qp3 : World.cell? V3 ⟨W.heap.size, 0, none⟩ = some (.int .i64 k) := Lib.cell_of_heap q3.1 0
          have qa3 : World.cell? V3 ⟨w1.heap.size, 0, none⟩ = some (.slice (some ⟨g, 0, none⟩) l.length gc) := Lib.cell_of_heap q3.2.1 0
          have qg3 : World.cell? V3 ⟨g, 0 + k, none⟩ = some (.int .i64 x) := GC.out _ q3.2.2 k x HX.out
          clear q3
          gi_wp2
          refine ⟨trivial, ?_⟩
          refine (callsIn_wide.2 (IT.out _ BV3.out)).mono ?_
          rintro e V4 ⟨rfl, hb⟩
          have U4 := mkHid (builder_below U3.out hb)
          have K4 := mkHid (K3.out.trans (Keep.of_below hb K3.out.2.2.2.1))
          have BV4 := mkHid (below_step BV3.out hb)
          have z4 : V3.heap.size ≤ V4.heap.size := hb.size
          clear hb qp3 qa3 qg3
          gi_wp2
          refine ⟨trivial, ?_⟩
          refine (callsIn_wide.2 (writeString_any (w.heap.size + 1) (w.heap.size + 1) _ (dec k) _ U4.out (by rw [Lib.byteCells_length]; (try simp); omega) (by omega))).mono ?_
          rintro e V5 ⟨rfl, hu, hb, hk'⟩
          have U5 : Hid (Lib.IsBuilderF 42 5 (w.heap.size + 1) (w.heap.size + 1) (Lib.byteCells (orderT l k ++ [32] ++ [40] ++ (dec k).data.toList)) V5) := mkHid (by rw [Lib.byteCells_append]; simp only [Lib.strCells] at hu; exact .inr hu)
          have K5 := mkHid (K4.out.trans (Keep.of_others hb hk'))
          have BV5 := mkHid (BV4.out.trans (hb.mono (by omega)))
          have z5 : V4.heap.size ≤ V5.heap.size := hb.size
          clear hu hb hk'
          have q5 := RD.out _ K5.out
          have qp5 : World.cell? V5 ⟨W.heap.size, 0, none⟩ = some (.int .i64 k) := Lib.cell_of_heap q5.1 0
          have qa5 : World.cell? V5 ⟨w1.heap.size, 0, none⟩ = some (.slice (some ⟨g, 0, none⟩) l.length gc) := Lib.cell_of_heap q5.2.1 0
          have qg5 : World.cell? V5 ⟨g, 0 + k, none⟩ = some (.int .i64 x) := GC.out _ q5.2.2 k x HX.out
          clear q5
          gi_wp2
          refine ⟨trivial, ?_⟩
          refine (around_in Fence.wide 4 trivial rfl _ _ _ _ _).mono ?_
          rintro e V6' ⟨rfl, rfl⟩
          obtain ⟨V6, hV6⟩ : ∃ V6, (V5.alloc (.cells #[.slice (some ⟨g, 0, none⟩) l.length gc] 43)).alloc (.cells #[.int .i64 k] 3) = V6 := ⟨_, rfl⟩
          have s6 : V6.heap.size = V5.heap.size + 2 := by rw [← hV6]; simp
          have b6 : Below V5.heap.size V5 V6 := by rw [← hV6]; exact ((Below.refl _ _).alloc (Nat.le_refl _) _).alloc (by simp) _
          have A6 : V6.heap[V5.heap.size]? = some (.cells #[.slice (some ⟨g, 0, none⟩) l.length gc] 43 (0, 0)) := by
            rw [← hV6]
            exact (Below.heap_alloc _ _ _ (by simp)).trans (heap_alloc_new V5 _)
          have P6 : V6.heap[V5.heap.size + 1]? = some (.cells #[.int .i64 k] 3 (0, 0)) := by
            rw [← hV6]
            have := heap_alloc_new (V5.alloc (.cells #[.slice (some ⟨g, 0, none⟩) l.length gc] 43)) (.cells #[.int .i64 k] 3)
            simpa using this
          have U6 := mkHid (builder_below U5.out b6)
          have K6 := mkHid (K5.out.trans (Keep.of_below b6 (by omega)))
          have BV6 := mkHid (below_step BV5.out b6)
          have q6 := RD.out _ K6.out
          have z6 : V5.heap.size ≤ V6.heap.size := by omega
          have HQ6 := mkHid (And.intro A6 (And.intro P6 q6))
          have RS : Hid (∀ W', Below V6.heap.size V6 W' → ∀ V, Keep (w.heap.size + 1) V6.heap.size W' V → V.heap[V5.heap.size + 1]? = some (.cells #[.int .i64 k] 3 (0, 0)) ∧ V.heap[W.heap.size]? = some (.cells #[.int .i64 k] 3 (0, 0)) ∧ V.heap[w1.heap.size]? = some (.cells #[.slice (some ⟨g, 0, none⟩) l.length gc] 43 (0, 0)) ∧ V.heap[g]? = some (.cells cur 3 (0, 0))) := mkHid fun W' hW' V hV =>
            ⟨hV.at ((hW'.block _ (by omega)).trans P6) (by decide) (by omega) (by omega), hV.at ((hW'.block _ (by omega)).trans q6.1) (by decide) (by omega) (by omega), hV.at ((hW'.block _ (by omega)).trans q6.2.1) (by decide) (by omega) (by omega), hV.at ((hW'.block _ (by omega)).trans q6.2.2) (by decide) (by omega) (by omega)⟩
          obtain ⟨txt, htxt⟩ : ∃ txt, txt = orderT l k ++ [32] ++ [40] ++ (dec k).data.toList := ⟨_, rfl⟩
          rw [← htxt] at U6
          have htl : txt.length ≤ 18020000 := by rw [htxt, List.length_append, dec_len]; (try simp); omega
          have HNX : Hid (orderT l (k + 1) = txt ++ List.replicate (hits l k (nestN l k (k + 1))) 41) := mkHid (by
            rw [orderT_succ HF.out HX.out hlt, if_pos (by omega), if_pos (by omega), htxt]
            simp)
          clear b6 A6 P6 q6 htxt qp5 qa5 qg5
          rw [hV6]
          dsimp only
          gi_wp2
          refine wpIn_rangeFunc_ownG (α := Pt l.length) rfl (by omega) (gf := 28) (lb := #[.pointer (some ⟨V5.heap.size, 0, none⟩), .pointer (some ⟨V5.heap.size + 1, 0, none⟩)]) rfl trivial (enters_of Tryd.func28 (by kernel_rfl) rfl)
            (encs := fun x => #[.int .i64 (x.1 : Int)]) (Kp := Keep (w.heap.size + 1) V6.heap.size) (S := fun ys => ys.map (·.1) = nestN l k (k + 1)) (Sp := fun _ => True) (N := k + 1) (w0 := V6)
            (fun l' J Jx W' hW' _ _ hY h0 => around1_in Fence.wide 4 trivial rfl (by omega) l' V5.heap.size (V5.heap.size + 1) g 0 gc k l hlen hlt hcap (Keep (w.heap.size + 1) V6.heap.size) (Keep.refl _ _) Keep.trans J Jx hY W'
              (Lib.cell_of_heap ((hW'.block _ (by omega)).trans HQ6.out.1) 0) (fun V hV => Lib.cell_of_heap (RS.out W' hW' V hV).1 0) (fun V hV => GC.out V (RS.out W' hW' V hV).2.2.2) h0)
            Keep.trans (fun V D o o' hD _ _ _ => Keep.put (by omega)) (Below.refl _ _) (fun _ => rfl)
            (fun pre V => Lib.IsBuilderF 42 5 (w.heap.size + 1) (w.heap.size + 1) (Lib.byteCells (txt ++ List.replicate (hits l k (pre.map (·.1))) 41)) V ∧ (Keep (w.heap.size + 1) V6.heap.size V6 V ∧ Below w.heap.size V6 V))
            (fun _ _ _ => False)
            (OwnFrom.and (Own.from (builder_own _ _ (fun pre : List (Pt l.length) => Lib.byteCells (txt ++ List.replicate (hits l k (pre.map (·.1))) 41))) _) (OwnFrom.and keep_own (ownFrom_below (by omega) (by omega))))
            (fun _ _ _ _ _ hs _ _ => hs)
            ⟨by simpa [hits] using U6.out, Keep.refl _ _ _, Below.refl _ _⟩ ?a1PH ?assignPH ?bodyPH ?donePH ?stopPH
          case assignPH =>
            intro l' x V K hK
            gi_wp2
            exact hK
          case bodyPH =>
            rintro l' pre ⟨x', hx'⟩ V ⟨hbu, hkp⟩ hlt'
            try dsimp only
            obtain ⟨y, hy⟩ : ∃ y, l[x']? = some y := ⟨_, List.getElem?_eq_getElem hx'⟩
            have q := RS.out V6 (Below.refl _ _) V hkp.1
            have rp : V.cell? ⟨W.heap.size, 0, none⟩ = some (.int .i64 k) := Lib.cell_of_heap q.2.1 0
            have ra : V.cell? ⟨w1.heap.size, 0, none⟩ = some (.slice (some ⟨g, 0, none⟩) l.length gc) := Lib.cell_of_heap q.2.2.1 0
            have rg : V.cell? ⟨g, x', none⟩ = some (.int .i64 y) := by have := GC.out V q.2.2.2 x' y hy; rwa [Nat.zero_add] at this
            have i0 : (0 : Int) ≤ (x' : Int) := by omega
            have i1 : (x' : Int) < (l.length : Int) := by omega
            have HY := mkHid hy
            have HU := mkHid hbu
            have HK := mkHid hkp
            clear hy hbu hkp q
            have hmx : Tryd.prog.follows .mixedOrders = true := by kernel_rfl
            have hhl : hits l k (pre.map (·.1)) ≤ 3001 := by
              have h1 : hits l k (pre.map (·.1)) ≤ (pre.map (·.1)).length := List.countP_le_length
              rw [List.length_map] at h1
              omega
            have zV : V6.heap.size ≤ V.heap.size := HK.out.1.2.2.2.1
            have dV : Below V.heap.size V V.drew := (Below.refl _ _).drew
            have UD := mkHid (builder_below HU.out dV)
            have HH := mkHid hhl
            have HDV := mkHid dV
            clear hhl dV
            by_cases hyk : y = (k : Int)
            · gi_wp2
              gi_region_o
              all_goals gi_wp2
              all_goals refine ⟨trivial, ?_⟩
              all_goals refine (CallsIn.inRound l' (callsIn_wide.2 (writeByte_any (w.heap.size + 1) (w.heap.size + 1) _ 41 _ UD.out (by have h3 := HH.out; rw [Lib.byteCells_length, List.length_append, List.length_replicate]; omega) (by show _ ≤ V.heap.size; omega)))).mono ?_
              all_goals rintro e V7 ⟨rfl, hu, hb, hk'⟩
              all_goals have KD : Hid (KeepsFrom V6.heap.size V V7 ∧ Keep (w.heap.size + 1) V6.heap.size V V7 ∧ Below w.heap.size V V7) := mkHid ⟨((KeepsOthers.drew V).from _).trans (keeps_others hb hk' (by omega)), (Keep.of_below HDV.out zV).trans (Keep.of_others hb hk'), (HDV.out.mono (by omega)).trans (hb.mono (by omega))⟩
              all_goals have U7 : Hid (Lib.IsBuilderF 42 5 (w.heap.size + 1) (w.heap.size + 1) (Lib.byteCells (txt ++ List.replicate (hits l k ((pre ++ [(⟨x', hx'⟩ : Pt l.length)]).map (·.1))) 41)) V7) := mkHid (by
                rw [List.map_append, List.map_singleton, hits_yes _ HY.out hyk, List.replicate_succ', ← List.append_assoc, Lib.byteCells_append]
                exact .inr hu)
              all_goals clear hu hb hk'
              all_goals gi_wp2
              all_goals exact ⟨KD.out.1, KD.out.2.1, U7.out, HK.out.1.trans KD.out.2.1, HK.out.2.trans KD.out.2.2⟩
            · have U7 : Hid (Lib.IsBuilderF 42 5 (w.heap.size + 1) (w.heap.size + 1) (Lib.byteCells (txt ++ List.replicate (hits l k ((pre ++ [(⟨x', hx'⟩ : Pt l.length)]).map (·.1))) 41)) V.drew) := mkHid (by
                rw [List.map_append, List.map_singleton, hits_no _ HY.out hyk]
                exact UD.out)
              have KD : Hid (KeepsFrom V6.heap.size V V.drew ∧ Keep (w.heap.size + 1) V6.heap.size V V.drew ∧ Below w.heap.size V V.drew) := mkHid ⟨(KeepsOthers.drew V).from _, Keep.of_below HDV.out zV, HDV.out.mono (by omega)⟩
              gi_wp2
              gi_region_o
              all_goals gi_wp2
              all_goals exact ⟨KD.out.1, KD.out.2.1, U7.out, HK.out.1.trans KD.out.2.1, HK.out.2.trans KD.out.2.2⟩
          case donePH =>
            rintro D ys V hD hys ⟨hbu, hkp⟩ hK
            gi_wp2
            have hV : Keep (w.heap.size + 1) W1.heap.size W1 V := K6.out.trans (hkp.1.mono (by have := K6.out.2.2.2.1; omega))
            rw [hys, ← HNX.out] at hbu
            refine ⟨⟨k + 1, D :: Ds, _, _, _, _, _, _, _, _, _, _, _, _, _, _, _, _, _, _, _, _, _, _, _, _, _, _, _, by omega, rfl, hbu, KW.out V hV, List.nodup_cons.2 ⟨fun h => ?_, hnd⟩, fun D' h => ?_, BV6.out.trans hkp.2⟩, ?_⟩
            · have := (HDS.out V hV D h).1
              omega
            · rcases List.mem_cons.1 h with rfl | h
              · exact ⟨by omega, hK⟩
              · exact ⟨(HDS.out V hV D' h).2.1, (HDS.out V hV D' h).2.2⟩
            · simp [intOf]
              omega
          case stopPH =>
            rintro D c' pre V _ _ h _
            exact h.elim
        · have q0 := RD.out _ K1.out
          have qp0 : World.cell? W1 ⟨W.heap.size, 0, none⟩ = some (.int .i64 k) := Lib.cell_of_heap q0.1 0
          have qa0 : World.cell? W1 ⟨w1.heap.size, 0, none⟩ = some (.slice (some ⟨g, 0, none⟩) l.length gc) := Lib.cell_of_heap q0.2.1 0
          have qg0 : World.cell? W1 ⟨g, 0 + k, none⟩ = some (.int .i64 x) := GC.out _ q0.2.2 k x HX.out
          clear q0
          gi_wp2
          refine ⟨trivial, ?_⟩
          rw [HW1.out]
          refine (callsIn_wide.2 (writeByte_any (w.heap.size + 1) (w.heap.size + 1) _ 32 _ U1.out (by rw [Lib.byteCells_length]; omega) (by omega))).mono ?_
          rintro e V1 ⟨rfl, hu, hb, hk'⟩
          have U2 : Hid (Lib.IsBuilderF 42 5 (w.heap.size + 1) (w.heap.size + 1) (Lib.byteCells (orderT l k ++ [32])) V1) := mkHid (by rw [Lib.byteCells_append]; exact .inr hu)
          have K2 := mkHid (K1.out.trans (Keep.of_others hb hk'))
          have BV2 := mkHid (BW.out.trans (hb.mono (by omega)))
          have z2 : W1.heap.size ≤ V1.heap.size := hb.size
          clear hu hb hk' qp0 qa0 qg0
          have q1 := RD.out _ K2.out
          have qp1 : World.cell? V1 ⟨W.heap.size, 0, none⟩ = some (.int .i64 k) := Lib.cell_of_heap q1.1 0
          have qa1 : World.cell? V1 ⟨w1.heap.size, 0, none⟩ = some (.slice (some ⟨g, 0, none⟩) l.length gc) := Lib.cell_of_heap q1.2.1 0
          have qg1 : World.cell? V1 ⟨g, 0 + k, none⟩ = some (.int .i64 x) := GC.out _ q1.2.2 k x HX.out
          clear q1
          gi_wp2
          refine ⟨trivial, ?_⟩
          refine (callsIn_wide.2 (isHead_no l.length gc g 0 k x _ k1 qg1 (by omega))).mono ?_
          rintro e V' ⟨rfl, rfl⟩
          gi_wp2
          refine ⟨trivial, ?_⟩
          refine (callsIn_wide.2 (IT.out _ BV2.out)).mono ?_
          rintro e V4 ⟨rfl, hb⟩
          have U4 := mkHid (builder_below U2.out hb)
          have K4 := mkHid (K2.out.trans (Keep.of_below hb K2.out.2.2.2.1))
          have BV4 := mkHid (below_step BV2.out hb)
          have z4 : V1.heap.size ≤ V4.heap.size := hb.size
          clear hb qp1 qa1 qg1
          gi_wp2
          refine ⟨trivial, ?_⟩
          refine (callsIn_wide.2 (writeString_any (w.heap.size + 1) (w.heap.size + 1) _ (dec k) _ U4.out (by rw [Lib.byteCells_length]; (try simp); omega) (by omega))).mono ?_
          rintro e V5 ⟨rfl, hu, hb, hk'⟩
          have U5 : Hid (Lib.IsBuilderF 42 5 (w.heap.size + 1) (w.heap.size + 1) (Lib.byteCells (orderT l k ++ [32] ++ (dec k).data.toList)) V5) := mkHid (by rw [Lib.byteCells_append]; simp only [Lib.strCells] at hu; exact .inr hu)
          have K5 := mkHid (K4.out.trans (Keep.of_others hb hk'))
          have BV5 := mkHid (BV4.out.trans (hb.mono (by omega)))
          have z5 : V4.heap.size ≤ V5.heap.size := hb.size
          clear hu hb hk'
          have q5 := RD.out _ K5.out
          have qp5 : World.cell? V5 ⟨W.heap.size, 0, none⟩ = some (.int .i64 k) := Lib.cell_of_heap q5.1 0
          have qa5 : World.cell? V5 ⟨w1.heap.size, 0, none⟩ = some (.slice (some ⟨g, 0, none⟩) l.length gc) := Lib.cell_of_heap q5.2.1 0
          have qg5 : World.cell? V5 ⟨g, 0 + k, none⟩ = some (.int .i64 x) := GC.out _ q5.2.2 k x HX.out
          clear q5
          gi_wp2
          refine ⟨trivial, ?_⟩
          refine (around_in Fence.wide 4 trivial rfl _ _ _ _ _).mono ?_
          rintro e V6' ⟨rfl, rfl⟩
          obtain ⟨V6, hV6⟩ : ∃ V6, (V5.alloc (.cells #[.slice (some ⟨g, 0, none⟩) l.length gc] 43)).alloc (.cells #[.int .i64 k] 3) = V6 := ⟨_, rfl⟩
          have s6 : V6.heap.size = V5.heap.size + 2 := by rw [← hV6]; simp
          have b6 : Below V5.heap.size V5 V6 := by rw [← hV6]; exact ((Below.refl _ _).alloc (Nat.le_refl _) _).alloc (by simp) _
          have A6 : V6.heap[V5.heap.size]? = some (.cells #[.slice (some ⟨g, 0, none⟩) l.length gc] 43 (0, 0)) := by
            rw [← hV6]
            exact (Below.heap_alloc _ _ _ (by simp)).trans (heap_alloc_new V5 _)
          have P6 : V6.heap[V5.heap.size + 1]? = some (.cells #[.int .i64 k] 3 (0, 0)) := by
            rw [← hV6]
            have := heap_alloc_new (V5.alloc (.cells #[.slice (some ⟨g, 0, none⟩) l.length gc] 43)) (.cells #[.int .i64 k] 3)
            simpa using this
          have U6 := mkHid (builder_below U5.out b6)
          have K6 := mkHid (K5.out.trans (Keep.of_below b6 (by omega)))
          have BV6 := mkHid (below_step BV5.out b6)
          have q6 := RD.out _ K6.out
          have z6 : V5.heap.size ≤ V6.heap.size := by omega
          have HQ6 := mkHid (And.intro A6 (And.intro P6 q6))
          have RS : Hid (∀ W', Below V6.heap.size V6 W' → ∀ V, Keep (w.heap.size + 1) V6.heap.size W' V → V.heap[V5.heap.size + 1]? = some (.cells #[.int .i64 k] 3 (0, 0)) ∧ V.heap[W.heap.size]? = some (.cells #[.int .i64 k] 3 (0, 0)) ∧ V.heap[w1.heap.size]? = some (.cells #[.slice (some ⟨g, 0, none⟩) l.length gc] 43 (0, 0)) ∧ V.heap[g]? = some (.cells cur 3 (0, 0))) := mkHid fun W' hW' V hV =>
            ⟨hV.at ((hW'.block _ (by omega)).trans P6) (by decide) (by omega) (by omega), hV.at ((hW'.block _ (by omega)).trans q6.1) (by decide) (by omega) (by omega), hV.at ((hW'.block _ (by omega)).trans q6.2.1) (by decide) (by omega) (by omega), hV.at ((hW'.block _ (by omega)).trans q6.2.2) (by decide) (by omega) (by omega)⟩
          obtain ⟨txt, htxt⟩ : ∃ txt, txt = orderT l k ++ [32] ++ (dec k).data.toList := ⟨_, rfl⟩
          rw [← htxt] at U6
          have htl : txt.length ≤ 18020000 := by rw [htxt, List.length_append, dec_len]; (try simp); omega
          have HNX : Hid (orderT l (k + 1) = txt ++ List.replicate (hits l k (nestN l k (k + 1))) 41) := mkHid (by
            rw [orderT_succ HF.out HX.out hlt, if_pos (by omega), if_neg (by omega), htxt]
            simp)
          clear b6 A6 P6 q6 htxt qp5 qa5 qg5
          rw [hV6]
          dsimp only
          gi_wp2
          refine wpIn_rangeFunc_ownG (α := Pt l.length) rfl (by omega) (gf := 28) (lb := #[.pointer (some ⟨V5.heap.size, 0, none⟩), .pointer (some ⟨V5.heap.size + 1, 0, none⟩)]) rfl trivial (enters_of Tryd.func28 (by kernel_rfl) rfl)
            (encs := fun x => #[.int .i64 (x.1 : Int)]) (Kp := Keep (w.heap.size + 1) V6.heap.size) (S := fun ys => ys.map (·.1) = nestN l k (k + 1)) (Sp := fun _ => True) (N := k + 1) (w0 := V6)
            (fun l' J Jx W' hW' _ _ hY h0 => around1_in Fence.wide 4 trivial rfl (by omega) l' V5.heap.size (V5.heap.size + 1) g 0 gc k l hlen hlt hcap (Keep (w.heap.size + 1) V6.heap.size) (Keep.refl _ _) Keep.trans J Jx hY W'
              (Lib.cell_of_heap ((hW'.block _ (by omega)).trans HQ6.out.1) 0) (fun V hV => Lib.cell_of_heap (RS.out W' hW' V hV).1 0) (fun V hV => GC.out V (RS.out W' hW' V hV).2.2.2) h0)
            Keep.trans (fun V D o o' hD _ _ _ => Keep.put (by omega)) (Below.refl _ _) (fun _ => rfl)
            (fun pre V => Lib.IsBuilderF 42 5 (w.heap.size + 1) (w.heap.size + 1) (Lib.byteCells (txt ++ List.replicate (hits l k (pre.map (·.1))) 41)) V ∧ (Keep (w.heap.size + 1) V6.heap.size V6 V ∧ Below w.heap.size V6 V))
            (fun _ _ _ => False)
            (OwnFrom.and (Own.from (builder_own _ _ (fun pre : List (Pt l.length) => Lib.byteCells (txt ++ List.replicate (hits l k (pre.map (·.1))) 41))) _) (OwnFrom.and keep_own (ownFrom_below (by omega) (by omega))))
            (fun _ _ _ _ _ hs _ _ => hs)
            ⟨by simpa [hits] using U6.out, Keep.refl _ _ _, Below.refl _ _⟩ ?a1PN ?assignPN ?bodyPN ?donePN ?stopPN
          case assignPN =>
            intro l' x V K hK
            gi_wp2
            exact hK
          case bodyPN =>
            rintro l' pre ⟨x', hx'⟩ V ⟨hbu, hkp⟩ hlt'
            try dsimp only
            obtain ⟨y, hy⟩ : ∃ y, l[x']? = some y := ⟨_, List.getElem?_eq_getElem hx'⟩
            have q := RS.out V6 (Below.refl _ _) V hkp.1
            have rp : V.cell? ⟨W.heap.size, 0, none⟩ = some (.int .i64 k) := Lib.cell_of_heap q.2.1 0
            have ra : V.cell? ⟨w1.heap.size, 0, none⟩ = some (.slice (some ⟨g, 0, none⟩) l.length gc) := Lib.cell_of_heap q.2.2.1 0
            have rg : V.cell? ⟨g, x', none⟩ = some (.int .i64 y) := by have := GC.out V q.2.2.2 x' y hy; rwa [Nat.zero_add] at this
            have i0 : (0 : Int) ≤ (x' : Int) := by omega
            have i1 : (x' : Int) < (l.length : Int) := by omega
            have HY := mkHid hy
            have HU := mkHid hbu
            have HK := mkHid hkp
            clear hy hbu hkp q
            have hmx : Tryd.prog.follows .mixedOrders = true := by kernel_rfl
            have hhl : hits l k (pre.map (·.1)) ≤ 3001 := by
              have h1 : hits l k (pre.map (·.1)) ≤ (pre.map (·.1)).length := List.countP_le_length
              rw [List.length_map] at h1
              omega
            have zV : V6.heap.size ≤ V.heap.size := HK.out.1.2.2.2.1
            have dV : Below V.heap.size V V.drew := (Below.refl _ _).drew
            have UD := mkHid (builder_below HU.out dV)
            have HH := mkHid hhl
            have HDV := mkHid dV
            clear hhl dV
            by_cases hyk : y = (k : Int)
            · gi_wp2
              gi_region_o
              all_goals gi_wp2
              all_goals refine ⟨trivial, ?_⟩
              all_goals refine (CallsIn.inRound l' (callsIn_wide.2 (writeByte_any (w.heap.size + 1) (w.heap.size + 1) _ 41 _ UD.out (by have h3 := HH.out; rw [Lib.byteCells_length, List.length_append, List.length_replicate]; omega) (by show _ ≤ V.heap.size; omega)))).mono ?_
              all_goals rintro e V7 ⟨rfl, hu, hb, hk'⟩
              all_goals have KD : Hid (KeepsFrom V6.heap.size V V7 ∧ Keep (w.heap.size + 1) V6.heap.size V V7 ∧ Below w.heap.size V V7) := mkHid ⟨((KeepsOthers.drew V).from _).trans (keeps_others hb hk' (by omega)), (Keep.of_below HDV.out zV).trans (Keep.of_others hb hk'), (HDV.out.mono (by omega)).trans (hb.mono (by omega))⟩
              all_goals have U7 : Hid (Lib.IsBuilderF 42 5 (w.heap.size + 1) (w.heap.size + 1) (Lib.byteCells (txt ++ List.replicate (hits l k ((pre ++ [(⟨x', hx'⟩ : Pt l.length)]).map (·.1))) 41)) V7) := mkHid (by
                rw [List.map_append, List.map_singleton, hits_yes _ HY.out hyk, List.replicate_succ', ← List.append_assoc, Lib.byteCells_append]
                exact .inr hu)
              all_goals clear hu hb hk'
              all_goals gi_wp2
              all_goals exact ⟨KD.out.1, KD.out.2.1, U7.out, HK.out.1.trans KD.out.2.1, HK.out.2.trans KD.out.2.2⟩
            · have U7 : Hid (Lib.IsBuilderF 42 5 (w.heap.size + 1) (w.heap.size + 1) (Lib.byteCells (txt ++ List.replicate (hits l k ((pre ++ [(⟨x', hx'⟩ : Pt l.length)]).map (·.1))) 41)) V.drew) := mkHid (by
                rw [List.map_append, List.map_singleton, hits_no _ HY.out hyk]
                exact UD.out)
              have KD : Hid (KeepsFrom V6.heap.size V V.drew ∧ Keep (w.heap.size + 1) V6.heap.size V V.drew ∧ Below w.heap.size V V.drew) := mkHid ⟨(KeepsOthers.drew V).from _, Keep.of_below HDV.out zV, HDV.out.mono (by omega)⟩
              gi_wp2
              gi_region_o
              all_goals gi_wp2
              all_goals exact ⟨KD.out.1, KD.out.2.1, U7.out, HK.out.1.trans KD.out.2.1, HK.out.2.trans KD.out.2.2⟩
          case donePN =>
            rintro D ys V hD hys ⟨hbu, hkp⟩ hK
            gi_wp2
            have hV : Keep (w.heap.size + 1) W1.heap.size W1 V := K6.out.trans (hkp.1.mono (by have := K6.out.2.2.2.1; omega))
            rw [hys, ← HNX.out] at hbu
            refine ⟨⟨k + 1, D :: Ds, _, _, _, _, _, _, _, _, _, _, _, _, _, _, _, _, _, _, _, _, _, _, _, _, _, _, _, by omega, rfl, hbu, KW.out V hV, List.nodup_cons.2 ⟨fun h => ?_, hnd⟩, fun D' h => ?_, BV6.out.trans hkp.2⟩, ?_⟩
            · have := (HDS.out V hV D h).1
              omega
            · rcases List.mem_cons.1 h with rfl | h
              · exact ⟨by omega, hK⟩
              · exact ⟨(HDS.out V hV D' h).2.1, (HDS.out V hV D' h).2.2⟩
            · simp [intOf]
              omega
          case stopPN =>
            rintro D c' pre V _ _ h _
            exact h.elim
      · by_cases hx0 : 0 ≤ x
        · have q0 := RD.out _ K1.out
          have qp0 : World.cell? W1 ⟨W.heap.size, 0, none⟩ = some (.int .i64 k) := Lib.cell_of_heap q0.1 0
          have qa0 : World.cell? W1 ⟨w1.heap.size, 0, none⟩ = some (.slice (some ⟨g, 0, none⟩) l.length gc) := Lib.cell_of_heap q0.2.1 0
          have qg0 : World.cell? W1 ⟨g, 0 + k, none⟩ = some (.int .i64 x) := GC.out _ q0.2.2 k x HX.out
          clear q0
          have qp0' := qp0
          have qa0' := qa0
          rw [← HW1.out] at qp0' qa0'
          gi_wp2
          refine ⟨trivial, ?_⟩
          rw [HW1.out]
          clear qp0' qa0'
          refine (callsIn_wide.2 (isHead_yes l.length gc g 0 k x _ k1 qg0 (by omega))).mono ?_
          rintro e V' ⟨rfl, rfl⟩
          gi_wp2
          refine ⟨trivial, ?_⟩
          refine (callsIn_wide.2 (writeByte_any (w.heap.size + 1) (w.heap.size + 1) _ 40 _ U1.out (by rw [Lib.byteCells_length]; (try simp); omega) (by omega))).mono ?_
          rintro e V3 ⟨rfl, hu, hb, hk'⟩
          have U3 : Hid (Lib.IsBuilderF 42 5 (w.heap.size + 1) (w.heap.size + 1) (Lib.byteCells (orderT l k ++ [40])) V3) := mkHid (by rw [Lib.byteCells_append]; exact .inr hu)
          have K3 := mkHid (K1.out.trans (Keep.of_others hb hk'))
          have BV3 := mkHid (BW.out.trans (hb.mono (by omega)))
          have z3 : W1.heap.size ≤ V3.heap.size := hb.size
          clear hu hb hk' qp0 qa0 qg0
          have q3 := RD.out _ K3.out
          have qp3 : World.cell? V3 ⟨W.heap.size, 0, none⟩ = some (.int .i64 k) := Lib.cell_of_heap q3.1 0
          have qa3 : World.cell? V3 ⟨w1.heap.size, 0, none⟩ = some (.slice (some ⟨g, 0, none⟩) l.length gc) := Lib.cell_of_heap q3.2.1 0
          have qg3 : World.cell? V3 ⟨g, 0 + k, none⟩ = some (.int .i64 x) := GC.out _ q3.2.2 k x HX.out
          clear q3
          gi_wp2
          refine ⟨trivial, ?_⟩
          refine (callsIn_wide.2 (IT.out _ BV3.out)).mono ?_
          rintro e V4 ⟨rfl, hb⟩
          have U4 := mkHid (builder_below U3.out hb)
          have K4 := mkHid (K3.out.trans (Keep.of_below hb K3.out.2.2.2.1))
          have BV4 := mkHid (below_step BV3.out hb)
          have z4 : V3.heap.size ≤ V4.heap.size := hb.size
          clear hb qp3 qa3 qg3
          gi_wp2
          refine ⟨trivial, ?_⟩
          refine (callsIn_wide.2 (writeString_any (w.heap.size + 1) (w.heap.size + 1) _ (dec k) _ U4.out (by rw [Lib.byteCells_length]; (try simp); omega) (by omega))).mono ?_
          rintro e V5 ⟨rfl, hu, hb, hk'⟩
          have U5 : Hid (Lib.IsBuilderF 42 5 (w.heap.size + 1) (w.heap.size + 1) (Lib.byteCells (orderT l k ++ [40] ++ (dec k).data.toList)) V5) := mkHid (by rw [Lib.byteCells_append]; simp only [Lib.strCells] at hu; exact .inr hu)
          have K5 := mkHid (K4.out.trans (Keep.of_others hb hk'))
          have BV5 := mkHid (BV4.out.trans (hb.mono (by omega)))
          have z5 : V4.heap.size ≤ V5.heap.size := hb.size
          clear hu hb hk'
          have q5 := RD.out _ K5.out
          have qp5 : World.cell? V5 ⟨W.heap.size, 0, none⟩ = some (.int .i64 k) := Lib.cell_of_heap q5.1 0
          have qa5 : World.cell? V5 ⟨w1.heap.size, 0, none⟩ = some (.slice (some ⟨g, 0, none⟩) l.length gc) := Lib.cell_of_heap q5.2.1 0
          have qg5 : World.cell? V5 ⟨g, 0 + k, none⟩ = some (.int .i64 x) := GC.out _ q5.2.2 k x HX.out
          clear q5
          gi_wp2
          refine ⟨trivial, ?_⟩
          refine (around_in Fence.wide 4 trivial rfl _ _ _ _ _).mono ?_
          rintro e V6' ⟨rfl, rfl⟩
          obtain ⟨V6, hV6⟩ : ∃ V6, (V5.alloc (.cells #[.slice (some ⟨g, 0, none⟩) l.length gc] 43)).alloc (.cells #[.int .i64 k] 3) = V6 := ⟨_, rfl⟩
          have s6 : V6.heap.size = V5.heap.size + 2 := by rw [← hV6]; simp
          have b6 : Below V5.heap.size V5 V6 := by rw [← hV6]; exact ((Below.refl _ _).alloc (Nat.le_refl _) _).alloc (by simp) _
          have A6 : V6.heap[V5.heap.size]? = some (.cells #[.slice (some ⟨g, 0, none⟩) l.length gc] 43 (0, 0)) := by
            rw [← hV6]
            exact (Below.heap_alloc _ _ _ (by simp)).trans (heap_alloc_new V5 _)
          have P6 : V6.heap[V5.heap.size + 1]? = some (.cells #[.int .i64 k] 3 (0, 0)) := by
            rw [← hV6]
            have := heap_alloc_new (V5.alloc (.cells #[.slice (some ⟨g, 0, none⟩) l.length gc] 43)) (.cells #[.int .i64 k] 3)
            simpa using this
          have U6 := mkHid (builder_below U5.out b6)
          have K6 := mkHid (K5.out.trans (Keep.of_below b6 (by omega)))
          have BV6 := mkHid (below_step BV5.out b6)
          have q6 := RD.out _ K6.out
          have z6 : V5.heap.size ≤ V6.heap.size := by omega
          have HQ6 := mkHid (And.intro A6 (And.intro P6 q6))
          have RS : Hid (∀ W', Below V6.heap.size V6 W' → ∀ V, Keep (w.heap.size + 1) V6.heap.size W' V → V.heap[V5.heap.size + 1]? = some (.cells #[.int .i64 k] 3 (0, 0)) ∧ V.heap[W.heap.size]? = some (.cells #[.int .i64 k] 3 (0, 0)) ∧ V.heap[w1.heap.size]? = some (.cells #[.slice (some ⟨g, 0, none⟩) l.length gc] 43 (0, 0)) ∧ V.heap[g]? = some (.cells cur 3 (0, 0))) := mkHid fun W' hW' V hV =>
            ⟨hV.at ((hW'.block _ (by omega)).trans P6) (by decide) (by omega) (by omega), hV.at ((hW'.block _ (by omega)).trans q6.1) (by decide) (by omega) (by omega), hV.at ((hW'.block _ (by omega)).trans q6.2.1) (by decide) (by omega) (by omega), hV.at ((hW'.block _ (by omega)).trans q6.2.2) (by decide) (by omega) (by omega)⟩
          obtain ⟨txt, htxt⟩ : ∃ txt, txt = orderT l k ++ [40] ++ (dec k).data.toList := ⟨_, rfl⟩
          rw [← htxt] at U6
          have htl : txt.length ≤ 18020000 := by rw [htxt, List.length_append, dec_len]; (try simp); omega
          have HNX : Hid (orderT l (k + 1) = txt ++ List.replicate (hits l k (nestN l k (k + 1))) 41) := mkHid (by
            rw [orderT_succ HF.out HX.out hlt, if_neg (by omega), if_pos (by omega), htxt]
            simp)
          clear b6 A6 P6 q6 htxt qp5 qa5 qg5
          rw [hV6]
          dsimp only
          gi_wp2
          refine wpIn_rangeFunc_ownG (α := Pt l.length) rfl (by omega) (gf := 28) (lb := #[.pointer (some ⟨V5.heap.size, 0, none⟩), .pointer (some ⟨V5.heap.size + 1, 0, none⟩)]) rfl trivial (enters_of Tryd.func28 (by kernel_rfl) rfl)
            (encs := fun x => #[.int .i64 (x.1 : Int)]) (Kp := Keep (w.heap.size + 1) V6.heap.size) (S := fun ys => ys.map (·.1) = nestN l k (k + 1)) (Sp := fun _ => True) (N := k + 1) (w0 := V6)
            (fun l' J Jx W' hW' _ _ hY h0 => around1_in Fence.wide 4 trivial rfl (by omega) l' V5.heap.size (V5.heap.size + 1) g 0 gc k l hlen hlt hcap (Keep (w.heap.size + 1) V6.heap.size) (Keep.refl _ _) Keep.trans J Jx hY W'
              (Lib.cell_of_heap ((hW'.block _ (by omega)).trans HQ6.out.1) 0) (fun V hV => Lib.cell_of_heap (RS.out W' hW' V hV).1 0) (fun V hV => GC.out V (RS.out W' hW' V hV).2.2.2) h0)
            Keep.trans (fun V D o o' hD _ _ _ => Keep.put (by omega)) (Below.refl _ _) (fun _ => rfl)
            (fun pre V => Lib.IsBuilderF 42 5 (w.heap.size + 1) (w.heap.size + 1) (Lib.byteCells (txt ++ List.replicate (hits l k (pre.map (·.1))) 41)) V ∧ (Keep (w.heap.size + 1) V6.heap.size V6 V ∧ Below w.heap.size V6 V))
            (fun _ _ _ => False)
            (OwnFrom.and (Own.from (builder_own _ _ (fun pre : List (Pt l.length) => Lib.byteCells (txt ++ List.replicate (hits l k (pre.map (·.1))) 41))) _) (OwnFrom.and keep_own (ownFrom_below (by omega) (by omega))))
            (fun _ _ _ _ _ hs _ _ => hs)
            ⟨by simpa [hits] using U6.out, Keep.refl _ _ _, Below.refl _ _⟩ ?a1NH ?assignNH ?bodyNH ?doneNH ?stopNH
          case assignNH =>
            intro l' x V K hK
            gi_wp2
            exact hK
          case bodyNH =>
            rintro l' pre ⟨x', hx'⟩ V ⟨hbu, hkp⟩ hlt'
            try dsimp only
            obtain ⟨y, hy⟩ : ∃ y, l[x']? = some y := ⟨_, List.getElem?_eq_getElem hx'⟩
            have q := RS.out V6 (Below.refl _ _) V hkp.1
            have rp : V.cell? ⟨W.heap.size, 0, none⟩ = some (.int .i64 k) := Lib.cell_of_heap q.2.1 0
            have ra : V.cell? ⟨w1.heap.size, 0, none⟩ = some (.slice (some ⟨g, 0, none⟩) l.length gc) := Lib.cell_of_heap q.2.2.1 0
            have rg : V.cell? ⟨g, x', none⟩ = some (.int .i64 y) := by have := GC.out V q.2.2.2 x' y hy; rwa [Nat.zero_add] at this
            have i0 : (0 : Int) ≤ (x' : Int) := by omega
            have i1 : (x' : Int) < (l.length : Int) := by omega
            have HY := mkHid hy
            have HU := mkHid hbu
            have HK := mkHid hkp
            clear hy hbu hkp q
            have hmx : Tryd.prog.follows .mixedOrders = true := by kernel_rfl
            have hhl : hits l k (pre.map (·.1)) ≤ 3001 := by
              have h1 : hits l k (pre.map (·.1)) ≤ (pre.map (·.1)).length := List.countP_le_length
              rw [List.length_map] at h1
              omega
            have zV : V6.heap.size ≤ V.heap.size := HK.out.1.2.2.2.1
            have dV : Below V.heap.size V V.drew := (Below.refl _ _).drew
            have UD := mkHid (builder_below HU.out dV)
            have HH := mkHid hhl
            have HDV := mkHid dV
            clear hhl dV
            by_cases hyk : y = (k : Int)
            · gi_wp2
              gi_region_o
              all_goals gi_wp2
              all_goals refine ⟨trivial, ?_⟩
              all_goals refine (CallsIn.inRound l' (callsIn_wide.2 (writeByte_any (w.heap.size + 1) (w.heap.size + 1) _ 41 _ UD.out (by have h3 := HH.out; rw [Lib.byteCells_length, List.length_append, List.length_replicate]; omega) (by show _ ≤ V.heap.size; omega)))).mono ?_
              all_goals rintro e V7 ⟨rfl, hu, hb, hk'⟩
              all_goals have KD : Hid (KeepsFrom V6.heap.size V V7 ∧ Keep (w.heap.size + 1) V6.heap.size V V7 ∧ Below w.heap.size V V7) := mkHid ⟨((KeepsOthers.drew V).from _).trans (keeps_others hb hk' (by omega)), (Keep.of_below HDV.out zV).trans (Keep.of_others hb hk'), (HDV.out.mono (by omega)).trans (hb.mono (by omega))⟩
              all_goals have U7 : Hid (Lib.IsBuilderF 42 5 (w.heap.size + 1) (w.heap.size + 1) (Lib.byteCells (txt ++ List.replicate (hits l k ((pre ++ [(⟨x', hx'⟩ : Pt l.length)]).map (·.1))) 41)) V7) := mkHid (by
                rw [List.map_append, List.map_singleton, hits_yes _ HY.out hyk, List.replicate_succ', ← List.append_assoc, Lib.byteCells_append]
                exact .inr hu)
              all_goals clear hu hb hk'
              all_goals gi_wp2
              all_goals exact ⟨KD.out.1, KD.out.2.1, U7.out, HK.out.1.trans KD.out.2.1, HK.out.2.trans KD.out.2.2⟩
            · have U7 : Hid (Lib.IsBuilderF 42 5 (w.heap.size + 1) (w.heap.size + 1) (Lib.byteCells (txt ++ List.replicate (hits l k ((pre ++ [(⟨x', hx'⟩ : Pt l.length)]).map (·.1))) 41)) V.drew) := mkHid (by
                rw [List.map_append, List.map_singleton, hits_no _ HY.out hyk]
                exact UD.out)
              have KD : Hid (KeepsFrom V6.heap.size V V.drew ∧ Keep (w.heap.size + 1) V6.heap.size V V.drew ∧ Below w.heap.size V V.drew) := mkHid ⟨(KeepsOthers.drew V).from _, Keep.of_below HDV.out zV, HDV.out.mono (by omega)⟩
              gi_wp2
              gi_region_o
              all_goals gi_wp2
              all_goals exact ⟨KD.out.1, KD.out.2.1, U7.out, HK.out.1.trans KD.out.2.1, HK.out.2.trans KD.out.2.2⟩
          case doneNH =>
            rintro D ys V hD hys ⟨hbu, hkp⟩ hK
            gi_wp2
            have hV : Keep (w.heap.size + 1) W1.heap.size W1 V := K6.out.trans (hkp.1.mono (by have := K6.out.2.2.2.1; omega))
            rw [hys, ← HNX.out] at hbu
            refine ⟨⟨k + 1, D :: Ds, _, _, _, _, _, _, _, _, _, _, _, _, _, _, _, _, _, _, _, _, _, _, _, _, _, _, _, by omega, rfl, hbu, KW.out V hV, List.nodup_cons.2 ⟨fun h => ?_, hnd⟩, fun D' h => ?_, BV6.out.trans hkp.2⟩, ?_⟩
            · have := (HDS.out V hV D h).1
              omega
            · rcases List.mem_cons.1 h with rfl | h
              · exact ⟨by omega, hK⟩
              · exact ⟨(HDS.out V hV D' h).2.1, (HDS.out V hV D' h).2.2⟩
            · simp [intOf]
              omega
          case stopNH =>
            rintro D c' pre V _ _ h _
            exact h.elim
        · have q0 := RD.out _ K1.out
          have qp0 : World.cell? W1 ⟨W.heap.size, 0, none⟩ = some (.int .i64 k) := Lib.cell_of_heap q0.1 0
          have qa0 : World.cell? W1 ⟨w1.heap.size, 0, none⟩ = some (.slice (some ⟨g, 0, none⟩) l.length gc) := Lib.cell_of_heap q0.2.1 0
          have qg0 : World.cell? W1 ⟨g, 0 + k, none⟩ = some (.int .i64 x) := GC.out _ q0.2.2 k x HX.out
          clear q0
          have qp0' := qp0
          have qa0' := qa0
          rw [← HW1.out] at qp0' qa0'
          gi_wp2
          refine ⟨trivial, ?_⟩
          rw [HW1.out]
          clear qp0' qa0'
          refine (callsIn_wide.2 (isHead_no l.length gc g 0 k x _ k1 qg0 (by omega))).mono ?_
          rintro e V' ⟨rfl, rfl⟩
          gi_wp2
          refine ⟨trivial, ?_⟩
          refine (callsIn_wide.2 (IT.out _ BW.out)).mono ?_
          rintro e V4 ⟨rfl, hb⟩
          have U4 := mkHid (builder_below U1.out hb)
          have K4 := mkHid (K1.out.trans (Keep.of_below hb K1.out.2.2.2.1))
          have BV4 := mkHid (below_step BW.out hb)
          have z4 : W1.heap.size ≤ V4.heap.size := hb.size
          clear hb qp0 qa0 qg0
          gi_wp2
          refine ⟨trivial, ?_⟩
          refine (callsIn_wide.2 (writeString_any (w.heap.size + 1) (w.heap.size + 1) _ (dec k) _ U4.out (by rw [Lib.byteCells_length]; (try simp); omega) (by omega))).mono ?_
          rintro e V5 ⟨rfl, hu, hb, hk'⟩
          have U5 : Hid (Lib.IsBuilderF 42 5 (w.heap.size + 1) (w.heap.size + 1) (Lib.byteCells (orderT l k ++ (dec k).data.toList)) V5) := mkHid (by rw [Lib.byteCells_append]; simp only [Lib.strCells] at hu; exact .inr hu)
          have K5 := mkHid (K4.out.trans (Keep.of_others hb hk'))
          have BV5 := mkHid (BV4.out.trans (hb.mono (by omega)))
          have z5 : V4.heap.size ≤ V5.heap.size := hb.size
          clear hu hb hk'
          have q5 := RD.out _ K5.out
          have qp5 : World.cell? V5 ⟨W.heap.size, 0, none⟩ = some (.int .i64 k) := Lib.cell_of_heap q5.1 0
          have qa5 : World.cell? V5 ⟨w1.heap.size, 0, none⟩ = some (.slice (some ⟨g, 0, none⟩) l.length gc) := Lib.cell_of_heap q5.2.1 0
          have qg5 : World.cell? V5 ⟨g, 0 + k, none⟩ = some (.int .i64 x) := GC.out _ q5.2.2 k x HX.out
          clear q5
          gi_wp2
          refine ⟨trivial, ?_⟩
          refine (around_in Fence.wide 4 trivial rfl _ _ _ _ _).mono ?_
          rintro e V6' ⟨rfl, rfl⟩
          obtain ⟨V6, hV6⟩ : ∃ V6, (V5.alloc (.cells #[.slice (some ⟨g, 0, none⟩) l.length gc] 43)).alloc (.cells #[.int .i64 k] 3) = V6 := ⟨_, rfl⟩
          have s6 : V6.heap.size = V5.heap.size + 2 := by rw [← hV6]; simp
          have b6 : Below V5.heap.size V5 V6 := by rw [← hV6]; exact ((Below.refl _ _).alloc (Nat.le_refl _) _).alloc (by simp) _
          have A6 : V6.heap[V5.heap.size]? = some (.cells #[.slice (some ⟨g, 0, none⟩) l.length gc] 43 (0, 0)) := by
            rw [← hV6]
            exact (Below.heap_alloc _ _ _ (by simp)).trans (heap_alloc_new V5 _)
          have P6 : V6.heap[V5.heap.size + 1]? = some (.cells #[.int .i64 k] 3 (0, 0)) := by
            rw [← hV6]
            have := heap_alloc_new (V5.alloc (.cells #[.slice (some ⟨g, 0, none⟩) l.length gc] 43)) (.cells #[.int .i64 k] 3)
            simpa using this
          have U6 := mkHid (builder_below U5.out b6)
          have K6 := mkHid (K5.out.trans (Keep.of_below b6 (by omega)))
          have BV6 := mkHid (below_step BV5.out b6)
          have q6 := RD.out _ K6.out
          have z6 : V5.heap.size ≤ V6.heap.size := by omega
          have HQ6 := mkHid (And.intro A6 (And.intro P6 q6))
          have RS : Hid (∀ W', Below V6.heap.size V6 W' → ∀ V, Keep (w.heap.size + 1) V6.heap.size W' V → V.heap[V5.heap.size + 1]? = some (.cells #[.int .i64 k] 3 (0, 0)) ∧ V.heap[W.heap.size]? = some (.cells #[.int .i64 k] 3 (0, 0)) ∧ V.heap[w1.heap.size]? = some (.cells #[.slice (some ⟨g, 0, none⟩) l.length gc] 43 (0, 0)) ∧ V.heap[g]? = some (.cells cur 3 (0, 0))) := mkHid fun W' hW' V hV =>
            ⟨hV.at ((hW'.block _ (by omega)).trans P6) (by decide) (by omega) (by omega), hV.at ((hW'.block _ (by omega)).trans q6.1) (by decide) (by omega) (by omega), hV.at ((hW'.block _ (by omega)).trans q6.2.1) (by decide) (by omega) (by omega), hV.at ((hW'.block _ (by omega)).trans q6.2.2) (by decide) (by omega) (by omega)⟩
          obtain ⟨txt, htxt⟩ : ∃ txt, txt = orderT l k ++ (dec k).data.toList := ⟨_, rfl⟩
          rw [← htxt] at U6
          have htl : txt.length ≤ 18020000 := by rw [htxt, List.length_append, dec_len]; (try simp); omega
          have HNX : Hid (orderT l (k + 1) = txt ++ List.replicate (hits l k (nestN l k (k + 1))) 41) := mkHid (by
            rw [orderT_succ HF.out HX.out hlt, if_neg (by omega), if_neg (by omega), htxt]
            simp)
          clear b6 A6 P6 q6 htxt qp5 qa5 qg5
          rw [hV6]
          dsimp only
          gi_wp2
          refine wpIn_rangeFunc_ownG (α := Pt l.length) rfl (by omega) (gf := 28) (lb := #[.pointer (some ⟨V5.heap.size, 0, none⟩), .pointer (some ⟨V5.heap.size + 1, 0, none⟩)]) rfl trivial (enters_of Tryd.func28 (by kernel_rfl) rfl)
            (encs := fun x => #[.int .i64 (x.1 : Int)]) (Kp := Keep (w.heap.size + 1) V6.heap.size) (S := fun ys => ys.map (·.1) = nestN l k (k + 1)) (Sp := fun _ => True) (N := k + 1) (w0 := V6)
            (fun l' J Jx W' hW' _ _ hY h0 => around1_in Fence.wide 4 trivial rfl (by omega) l' V5.heap.size (V5.heap.size + 1) g 0 gc k l hlen hlt hcap (Keep (w.heap.size + 1) V6.heap.size) (Keep.refl _ _) Keep.trans J Jx hY W'
              (Lib.cell_of_heap ((hW'.block _ (by omega)).trans HQ6.out.1) 0) (fun V hV => Lib.cell_of_heap (RS.out W' hW' V hV).1 0) (fun V hV => GC.out V (RS.out W' hW' V hV).2.2.2) h0)
            Keep.trans (fun V D o o' hD _ _ _ => Keep.put (by omega)) (Below.refl _ _) (fun _ => rfl)
            (fun pre V => Lib.IsBuilderF 42 5 (w.heap.size + 1) (w.heap.size + 1) (Lib.byteCells (txt ++ List.replicate (hits l k (pre.map (·.1))) 41)) V ∧ (Keep (w.heap.size + 1) V6.heap.size V6 V ∧ Below w.heap.size V6 V))
            (fun _ _ _ => False)
            (OwnFrom.and (Own.from (builder_own _ _ (fun pre : List (Pt l.length) => Lib.byteCells (txt ++ List.replicate (hits l k (pre.map (·.1))) 41))) _) (OwnFrom.and keep_own (ownFrom_below (by omega) (by omega))))
            (fun _ _ _ _ _ hs _ _ => hs)
            ⟨by simpa [hits] using U6.out, Keep.refl _ _ _, Below.refl _ _⟩ ?a1NN ?assignNN ?bodyNN ?doneNN ?stopNN
          case assignNN =>
            intro l' x V K hK
            gi_wp2
            exact hK
          case bodyNN =>
            rintro l' pre ⟨x', hx'⟩ V ⟨hbu, hkp⟩ hlt'
            try dsimp only
            obtain ⟨y, hy⟩ : ∃ y, l[x']? = some y := ⟨_, List.getElem?_eq_getElem hx'⟩
            have q := RS.out V6 (Below.refl _ _) V hkp.1
            have rp : V.cell? ⟨W.heap.size, 0, none⟩ = some (.int .i64 k) := Lib.cell_of_heap q.2.1 0
            have ra : V.cell? ⟨w1.heap.size, 0, none⟩ = some (.slice (some ⟨g, 0, none⟩) l.length gc) := Lib.cell_of_heap q.2.2.1 0
            have rg : V.cell? ⟨g, x', none⟩ = some (.int .i64 y) := by have := GC.out V q.2.2.2 x' y hy; rwa [Nat.zero_add] at this
            have i0 : (0 : Int) ≤ (x' : Int) := by omega
            have i1 : (x' : Int) < (l.length : Int) := by omega
            have HY := mkHid hy
            have HU := mkHid hbu
            have HK := mkHid hkp
            clear hy hbu hkp q
            have hmx : Tryd.prog.follows .mixedOrders = true := by kernel_rfl
            have hhl : hits l k (pre.map (·.1)) ≤ 3001 := by
              have h1 : hits l k (pre.map (·.1)) ≤ (pre.map (·.1)).length := List.countP_le_length
              rw [List.length_map] at h1
              omega
            have zV : V6.heap.size ≤ V.heap.size := HK.out.1.2.2.2.1
            have dV : Below V.heap.size V V.drew := (Below.refl _ _).drew
            have UD := mkHid (builder_below HU.out dV)
            have HH := mkHid hhl
            have HDV := mkHid dV
            clear hhl dV
            by_cases hyk : y = (k : Int)
            · gi_wp2
              gi_region_o
              all_goals gi_wp2
              all_goals refine ⟨trivial, ?_⟩
              all_goals refine (CallsIn.inRound l' (callsIn_wide.2 (writeByte_any (w.heap.size + 1) (w.heap.size + 1) _ 41 _ UD.out (by have h3 := HH.out; rw [Lib.byteCells_length, List.length_append, List.length_replicate]; omega) (by show _ ≤ V.heap.size; omega)))).mono ?_
              all_goals rintro e V7 ⟨rfl, hu, hb, hk'⟩
              all_goals have KD : Hid (KeepsFrom V6.heap.size V V7 ∧ Keep (w.heap.size + 1) V6.heap.size V V7 ∧ Below w.heap.size V V7) := mkHid ⟨((KeepsOthers.drew V).from _).trans (keeps_others hb hk' (by omega)), (Keep.of_below HDV.out zV).trans (Keep.of_others hb hk'), (HDV.out.mono (by omega)).trans (hb.mono (by omega))⟩
              all_goals have U7 : Hid (Lib.IsBuilderF 42 5 (w.heap.size + 1) (w.heap.size + 1) (Lib.byteCells (txt ++ List.replicate (hits l k ((pre ++ [(⟨x', hx'⟩ : Pt l.length)]).map (·.1))) 41)) V7) := mkHid (by
                rw [List.map_append, List.map_singleton, hits_yes _ HY.out hyk, List.replicate_succ', ← List.append_assoc, Lib.byteCells_append]
                exact .inr hu)
              all_goals clear hu hb hk'
              all_goals gi_wp2
              all_goals exact ⟨KD.out.1, KD.out.2.1, U7.out, HK.out.1.trans KD.out.2.1, HK.out.2.trans KD.out.2.2⟩
            · have U7 : Hid (Lib.IsBuilderF 42 5 (w.heap.size + 1) (w.heap.size + 1) (Lib.byteCells (txt ++ List.replicate (hits l k ((pre ++ [(⟨x', hx'⟩ : Pt l.length)]).map (·.1))) 41)) V.drew) := mkHid (by
                rw [List.map_append, List.map_singleton, hits_no _ HY.out hyk]
                exact UD.out)
              have KD : Hid (KeepsFrom V6.heap.size V V.drew ∧ Keep (w.heap.size + 1) V6.heap.size V V.drew ∧ Below w.heap.size V V.drew) := mkHid ⟨(KeepsOthers.drew V).from _, Keep.of_below HDV.out zV, HDV.out.mono (by omega)⟩
              gi_wp2
              gi_region_o
              all_goals gi_wp2
              all_goals exact ⟨KD.out.1, KD.out.2.1, U7.out, HK.out.1.trans KD.out.2.1, HK.out.2.trans KD.out.2.2⟩
          case doneNN =>
            rintro D ys V hD hys ⟨hbu, hkp⟩ hK
            gi_wp2
            have hV : Keep (w.heap.size + 1) W1.heap.size W1 V := K6.out.trans (hkp.1.mono (by have := K6.out.2.2.2.1; omega))
            rw [hys, ← HNX.out] at hbu
            refine ⟨⟨k + 1, D :: Ds, _, _, _, _, _, _, _, _, _, _, _, _, _, _, _, _, _, _, _, _, _, _, _, _, _, _, _, by omega, rfl, hbu, KW.out V hV, List.nodup_cons.2 ⟨fun h => ?_, hnd⟩, fun D' h => ?_, BV6.out.trans hkp.2⟩, ?_⟩
            · have := (HDS.out V hV D h).1
              omega
            · rcases List.mem_cons.1 h with rfl | h
              · exact ⟨by omega, hK⟩
              · exact ⟨(HDS.out V hV D' h).2.1, (HDS.out V hV D' h).2.2⟩
            · simp [intOf]
              omega
          case stopNN =>
            rintro D c' pre V _ _ h _
            exact h.elim
    · obtain rfl : k = l.length := by omega
      gi_wp2
      refine ⟨trivial, ?_⟩
      have hsz : w2.heap.size ≤ W.heap.size := hkeep.2.2.2.1
      refine (callsIn_wide.2 (Tryd.Builder_String_any_k (w.heap.size + 1) (w.heap.size + 1) _ W hbu (by omega))).mono ?_
      rintro e V ⟨rfl, _, hb, hk'⟩
      gi_wp2
      refine leaves_marks (n1 := w2.heap.size) (fun V => Below w.heap.size w V) (fun V D h1 h2 h3 => ?_) (fun V h => ?_) Ds V hnd (fun D hD => ⟨(hds D hD).1, hk' D _ (hds D hD).2 (fun e => by have := (hds D hD).1; simp at e; omega) (fun c fz e => by simp at e)⟩) (hbel.trans (hb.mono (by omega)))
      · exact h1.grown (grownBy_putObj' V D (.deferred none)) h1.size (fun q e => by cases e; omega)
      · exact ⟨_, results_tmp rfl _ _ _, rfl, h⟩
end Go.Proofs.YtpikgigfeifliaaDoor
