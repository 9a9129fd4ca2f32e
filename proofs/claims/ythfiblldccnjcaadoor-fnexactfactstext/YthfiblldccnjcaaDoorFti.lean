/-
  CONTRACT of the program's FactsText.
-/
import Derived.Test.YthfiblldccnjcaaDoorFxt
import Derived.Test.YthfiblldccnjcaaDoorShelfj
import Derived.Deep.WholeRow
namespace Go.Proofs.YthfiblldccnjcaaDoor
open Go.RowKit

/-- What the walks keep: nothing old has turned, and the box of the facts. -/
structure FB (w v : World) (z : Int) (a : Option Addr) (n c : Nat) : Prop where
  bel : Below w.heap.size w v
  c0 : v.cell? ⟨w.heap.size, 0, none⟩ = some (.int .i64 z)
  c1 : v.cell? ⟨w.heap.size, 1, none⟩ = some (.slice a n c)
  lt : w.heap.size < v.heap.size
theorem FB.new (w : World) (z : Int) (a : Option Addr) (n c : Nat) (T : TypeId) : FB w (w.alloc (.cells #[.int .i64 z, .slice a n c] T)) z a n c :=
  ⟨(Below.refl w.heap.size w).alloc (Nat.le_refl _) _, by simp [go_sem], by simp [go_sem], by simp⟩
theorem FB.below {w v v' : World} {z : Int} {a : Option Addr} {n c : Nat} (h : FB w v z a n c) (hb : Below v.heap.size v v') : FB w v' z a n c :=
  ⟨below_step h.bel hb, (hb.cell (p := ⟨w.heap.size, 0, none⟩) h.lt).trans h.c0, (hb.cell (p := ⟨w.heap.size, 1, none⟩) h.lt).trans h.c1, Nat.lt_of_lt_of_le h.lt hb.size⟩
theorem FB.grown {w v v' : World} {z : Int} {a : Option Addr} {n c : Nat} {row : Option Nat} (h : FB w v z a n c) (hg : v.grownBy v' row) (hr : ∀ q, row = some q → w.heap.size < q) : FB w v' z a n c :=
  ⟨h.bel.grown hg h.bel.size (fun q hq => Nat.le_of_lt (hr q hq)), (hg.cell_far ⟨w.heap.size, 0, none⟩ h.lt (fun e => Nat.lt_irrefl _ (hr _ e.symm))).trans h.c0, (hg.cell_far ⟨w.heap.size, 1, none⟩ h.lt (fun e => Nat.lt_irrefl _ (hr _ e.symm))).trans h.c1, Nat.lt_of_lt_of_le h.lt hg.size⟩
theorem strs_snoc (l : List ByteArray) (x : ByteArray) : strs l ++ [.string x] = strs (l ++ [x]) := by simp [strs]
def OwnS (w : World) (base : Nat) (v : Value) (l : List ByteArray) : Prop := w.ownsRow base 9 1 v l.length (strs l)
theorem OwnS.below {w w' : World} {base : Nat} {v : Value} {l : List ByteArray} (h : OwnS w base v l) (hb : Below w.heap.size w w') : OwnS w' base v l := owns_below h hb
theorem OwnS.nil (w : World) (base : Nat) : OwnS w base (.slice none 0 0) [] := ⟨rfl, .inl ⟨rfl, rfl⟩⟩
theorem OwnS.cells {w : World} {base : Nat} {ao : Option Addr} {n cap : Nat} {l : List ByteArray} (h : OwnS w base (.slice ao n cap) l) (hl : l ≠ []) : ∃ g, ao = some ⟨g, 0, none⟩ ∧ g < w.heap.size ∧ l.length ≤ cap ∧ ∀ (j : Nat) x, l[j]? = some x → w.cell? ⟨g, 0 + j, none⟩ = some (.string x) := by
  rcases h.2 with ⟨e, h0⟩ | ⟨g, cap', cur, e, hb, hg, h1, _⟩
  · exact absurd (List.length_eq_zero_iff.1 h0) hl
  · simp at e
    obtain ⟨rfl, rfl, rfl⟩ := e
    refine ⟨g, rfl, ?_, h1, fun i x hx => ?_⟩
    · rcases Nat.lt_or_ge g w.heap.size with h' | h'
      · exact h'
      · simp [Array.getElem?_eq_none h'] at hg
    · have hi := (List.getElem?_eq_some_iff.1 hx).1
      have := World.ownsRow.cellAt h i (by omega)
      rw [Nat.zero_add, this, strs_get, hx]; rfl
theorem said_same {n : Nat} {l : List Int} {nm : List ByteArray} {k : Nat} (h : l.getD k 0 = capT (k / n) (k % n)) : saidL n l nm (k + 1) = saidL n l nm k := by
  rw [saidL, if_pos h, List.append_nil]
theorem said_next {n : Nat} {l : List Int} {nm : List ByteArray} {k : Nat} (h : ¬ l.getD k 0 = capT (k / n) (k % n)) : saidL n l nm (k + 1) = saidL n l nm k ++ [pieceT nm (k / n) (k % n) (l.getD k 0)] := by
  rw [saidL, if_neg h]

set_option maxRecDepth 100000 in
set_option maxHeartbeats 3200000 in
theorem iFactsText_any (z : Int) (l : List Int) (a : Option Addr) (c : Nat) (nm : List ByteArray) (b off cap : Nat) (w : World) (hl : IntsAt w a l) (hF : Fit nm 1048576) (hn : StrsIn w nm b off) (ht : TabS w) :
    Calls Tryd.prog 9 #[.agg #[.int .i64 z, .slice a l.length c], .slice (some ⟨b, off, none⟩) nm.length cap] w fun e w' => e = .returned (.string (factsT z l nm)) ∧ Below w.heap.size w w' := by
  have HL := mkHid hl
  have HF := mkHid hF
  have HN := mkHid hn
  have HT := mkHid ht
  have hnm := hF.1
  clear hl hF hn ht
  have HNO : Hid (∀ v, Calls Tryd.prog 19 #[.agg #[.int .i64 z, .slice a l.length c]] v fun e w' => e = .returned (.bool (noF z l)) ∧ Below v.heap.size v w') := mkHid fun v => by rw [← noN_eq]; exact iNoF_any z a l.length c v
  have HOK : Hid (∀ v, Below w.heap.size w v → Calls Tryd.prog 20 #[.agg #[.int .i64 z, .slice a l.length c]] v fun e w' => e = .returned (.bool (okF z l)) ∧ Below v.heap.size v w') := mkHid fun v hb => iOk_any z l a c v (HL.out.below hb)
  have HLB : Hid (∀ v, Below w.heap.size w v → Calls Tryd.prog 21 #[.slice (some ⟨b, off, none⟩) nm.length cap] v fun e w' => e = .returned (.bool (labsB nm)) ∧ Below v.heap.size v w') := mkHid fun v hb => areLabels_of nm b off cap v HF.out (HN.out.below hb)
  have B0 := mkHid (FB.new w z a l.length c 29)
  obtain ⟨w1, hw1⟩ : ∃ v, w.alloc (.cells #[.int .i64 z, .slice a l.length c] 29) = v := ⟨_, rfl⟩
  rw [hw1] at B0
  have HW1 := mkHid hw1
  clear hw1
  have p0 := B0.out.c0
  have p1 := B0.out.c1
  cases hno : noF z l with
  | true =>
    have E := mkHid (show factsT z l nm = ⟨#[110, 111, 110, 101]⟩ by unfold factsT; rw [hno]; rfl)
    rw [hno] at HNO
    go_enter Tryd.func9, Tryd.ntmps9
    go_wp2_with fail
    rw [HW1.out]
    go_wp2_with fail
    refine (HNO.out _).mono ?_
    rintro e w2 ⟨rfl, hb⟩
    have B1 := mkHid (B0.out.below hb)
    clear hb
    go_wp2
    go_ret
    exact ⟨ret_str E.out.symm, B1.out.bel⟩
  | false =>
    rw [hno] at HNO
    cases hok : okF z l with
    | false =>
      have E := mkHid (show factsT z l nm = ⟨#[]⟩ by unfold factsT fitB; rw [hno, hok]; rfl)
      rw [hok] at HOK
      go_enter Tryd.func9, Tryd.ntmps9
      go_wp2_with fail
      rw [HW1.out]
      go_wp2_with fail
      refine (HNO.out _).mono ?_
      rintro e w2 ⟨rfl, hb⟩
      have B1 := mkHid (B0.out.below hb)
      clear hb p0 p1
      have p0 := B1.out.c0
      have p1 := B1.out.c1
      go_wp2_with fail
      refine (HOK.out _ B1.out.bel).mono ?_
      rintro e w3 ⟨rfl, hb⟩
      have B2 := mkHid (B1.out.below hb)
      clear hb
      go_wp2
      go_ret
      exact ⟨ret_str E.out.symm, B2.out.bel⟩
    | true =>
      rw [hok] at HOK
      obtain ⟨n, rfl, hn1, hn2, hll⟩ : ∃ n : Nat, z = n ∧ 1 ≤ n ∧ n ≤ 13 ∧ l.length = n * n := by
        have h := hok
        unfold okF at h
        simp only [Bool.and_eq_true, decide_eq_true_eq] at h
        exact ⟨z.toNat, by omega, by omega, by omega, h.1.2.2⟩
      have hw_n : IntKind.i64.wrap ((n : Int) - 1) = (n : Int) - 1 := IntWalk.i64_in _ ⟨by omega, by omega⟩
      have HKO := mkHid hok
      have HLL := mkHid hll
      have hqq := sq_le (n := n) (by omega)
      have hq1 := sq_pos (n := n) (by omega)
      clear hok hll
      by_cases hle : (nm.length : Int) = (n : Int) - 1
      · have hb3 : ((nm.length : Int) != (n : Int) - 1) = false := by simp [hle]
        cases hlb : labsB nm with
        | false =>
          have E := mkHid (show factsT n l nm = ⟨#[]⟩ by unfold factsT fitB; rw [hno, hlb]; simp)
          rw [hlb] at HLB
          clear hle
          go_enter Tryd.func9, Tryd.ntmps9
          go_wp2_with fail
          rw [HW1.out]
          go_wp2_with fail
          refine (HNO.out _).mono ?_
          rintro e w2 ⟨rfl, hb⟩
          have B1 := mkHid (B0.out.below hb)
          clear hb p0 p1
          have p0 := B1.out.c0
          have p1 := B1.out.c1
          go_wp2_with fail
          refine (HOK.out _ B1.out.bel).mono ?_
          rintro e w3 ⟨rfl, hb⟩
          have B2 := mkHid (B1.out.below hb)
          clear hb p0 p1
          have p0 := B2.out.c0
          have p1 := B2.out.c1
          go_wp2_with fail
          refine (HLB.out _ B2.out.bel).mono ?_
          rintro e w4 ⟨rfl, hb⟩
          have B3 := mkHid (B2.out.below hb)
          clear hb
          go_wp2
          go_ret
          exact ⟨ret_str E.out.symm, B3.out.bel⟩
        | true =>
          have E := mkHid (show factsT n l nm = anyT (saidL n l nm l.length) by unfold factsT fitB; rw [hno, hlb, HKO.out]; simp [hle])
          rw [hlb] at HLB
          obtain ⟨q, hqe⟩ : ∃ q, l.length = q := ⟨_, rfl⟩
          have HLE := mkHid (show nm.length + 1 = n by omega)
          have hqm : q = n * n := by rw [← hqe]; exact HLL.out
          have hqb : q ≤ 169 := by omega
          have HQM := mkHid hqm
          rw [hqe] at HNO HOK B0 E HW1 p1 ⊢
          have HQ := mkHid hqe
          clear hle hqe hqm hqq hq1
          obtain ⟨i0, hi, hz⟩ := Option.map_eq_some_iff.1 Tryd.info9
          simp only [Prod.mk.injEq] at hz
          have HI := mkHid (show Tryd.prog.info? 9 = some i0 ∧ i0.zero = some (.string ⟨#[]⟩) ∧ i0.size = 1 ∧ i0.bytes = 16 from ⟨hi, hz.1, hz.2.1, hz.2.2⟩)
          clear hi hz
          have hn0 : ¬ ((n : Int) = 0) := by omega
          go_enter Tryd.func9, Tryd.ntmps9
          go_wp2_with fail
          rw [HW1.out]
          go_wp2_with fail
          refine (HNO.out _).mono ?_
          rintro e w2 ⟨rfl, hb⟩
          have B1 := mkHid (B0.out.below hb)
          clear hb p0 p1
          have p0 := B1.out.c0
          have p1 := B1.out.c1
          go_wp2_with fail
          refine (HOK.out _ B1.out.bel).mono ?_
          rintro e w3 ⟨rfl, hb⟩
          have B2 := mkHid (B1.out.below hb)
          clear hb p0 p1
          have p0 := B2.out.c0
          have p1 := B2.out.c1
          go_wp2_with fail
          refine (HLB.out _ B2.out.bel).mono ?_
          rintro e w4 ⟨rfl, hb⟩
          have B3 := mkHid (B2.out.below hb)
          clear hb p0 p1
          have p0 := B3.out.c0
          have p1 := B3.out.c1
          go_wp2_with fail
          go_loopg [5, 31] q (fun g s5 s31 wr => ∃ (k : Nat) (so : Option Addr) (sc : Nat), k + g = q ∧ s31 = .int .i64 k ∧ s5 = .slice so (saidL n l nm k).length sc ∧ OwnS wr (w.heap.size + 1) (.slice so (saidL n l nm k).length sc) (saidL n l nm k) ∧ FB w wr n a q c)
          case atStart => exact ⟨0, none, 0, by omega, rfl, rfl, OwnS.nil _ _, B3.out⟩
          case round =>
            obtain ⟨k, so, sc, hkg, rfl, rfl, hO, hB⟩ := hrel
            have HO := mkHid hO
            have HB := mkHid hB
            clear hO hB B0 B1 B2 B3 p0 p1 HNO HOK HLB HW1
            have p0 := HB.out.c0
            have hLn := said_len n l nm k
            have HLS : Hid (∀ s, s ∈ saidL n l nm k → 0 < s.size ∧ s.size ≤ 7000000) := mkHid fun s hs => said_size HF.out (ok_num HKO.out) k s hs
            cases gk with
            | zero =>
              have hlt : ¬ ((k : Int) < (q : Int)) := by omega
              obtain rfl : k = q := by omega
              obtain ⟨L, hL⟩ : ∃ L, saidL n l nm k = L := ⟨_, rfl⟩
              rw [hL] at HO HLS E hLn ⊢
              clear hL
              by_cases h0 : L = []
              · have hb4 : ((L.length : Int) == 0) = true := by simp [h0]
                have E2 := mkHid (show anyT L = ⟨#[97, 110, 121]⟩ by unfold anyT; rw [if_pos h0])
                clear h0
                go_wp2
                go_ret
                exact ⟨ret_str (E.out.trans E2.out).symm, HB.out.bel⟩
              · have hb4 : ((L.length : Int) == 0) = false := by
                  rw [beq_eq_false_iff_ne]
                  intro e
                  exact h0 (List.length_eq_zero_iff.1 (by omega))
                obtain ⟨g, rfl, hg, hcp, hcl⟩ := OwnS.cells HO.out h0
                have hjl := joinB_size L 7000000 (fun s hs => (HLS.out s hs).2)
                have hLq : L.length * (7000000 + 2) ≤ 169 * (7000000 + 2) := Nat.mul_le_mul_right _ (by omega)
                have E2 := mkHid (show anyT L = joinB L by unfold anyT; rw [if_neg h0])
                have HJL : Hid ((Lib.join (L.map (·.data.toList)) [44, 32]).length ≤ 140737488355328) := mkHid (by
                  have : (joinB L).size = (Lib.join (L.map (·.data.toList)) [44, 32]).length := by unfold joinB; exact List.size_toArray
                  omega)
                have HJ := mkHid (Tryd.strings_Join g 0 sc L ⟨#[44, 32]⟩ wr hcl hg (by omega) hcp HJL.out)
                clear h0 hcl hjl hLq hcp hg HJL
                go_wp2_with fail
                refine HJ.out.mono ?_
                rintro e w5 ⟨rfl, hb⟩
                have B5 := mkHid (HB.out.below hb)
                clear hb HJ
                go_wp2
                go_ret
                exact ⟨ret_str (E.out.trans E2.out).symm, B5.out.bel⟩
            | succ g =>
              have hlt : (k : Int) < (q : Int) := by omega
              obtain ⟨bb, oo, rfl, d0⟩ := IntsAt.get' (HL.out.below HB.out.bel) (k := k) (by have := HQ.out; omega)
              have hen := ent_all (ok_each HKO.out k (by have := HQM.out; omega))
              obtain ⟨x, hx⟩ : ∃ x, l.getD k 0 = x := ⟨_, rfl⟩
              rw [hx] at d0 hen
              have hqu := quo_nat k n (by omega)
              have hre := rem_nat k n
              have hil : k / n < n := Nat.div_lt_of_lt_mul (by have := HQM.out; omega)
              have hjl : k % n < n := Nat.mod_lt _ (by omega)
              have HS1 := mkHid (said_same (n := n) (l := l) (nm := nm) (k := k))
              have HS2 := mkHid (said_next (n := n) (l := l) (nm := nm) (k := k))
              rw [hx] at HS1 HS2
              obtain ⟨i, hi⟩ : ∃ i, k / n = i := ⟨_, rfl⟩
              obtain ⟨j, hj⟩ : ∃ j, k % n = j := ⟨_, rfl⟩
              rw [hi] at hqu hil HS1 HS2 hen
              rw [hj] at hre hjl HS1 HS2 hen
              obtain ⟨cp, hcp⟩ : ∃ cp, capT i j = cp := ⟨_, rfl⟩
              have HCA : Hid (∀ v, Calls Tryd.prog 22 #[.int .i64 i, .int .i64 j] v fun e w' => e = .returned (.int .i64 cp) ∧ v = w') := mkHid fun v => by rw [← hcp]; exact iCap_any i j v
              rw [hcp] at HS1 HS2 hen
              have hij : i = j → cp = 0 := fun e => by rw [← hcp]; unfold capT; rw [if_pos e]
              have HIJ := mkHid hij
              have HEN := mkHid hen
              clear hx hi hj hcp hen hij
              have k0 : (0 : Int) ≤ (k : Int) := by omega
              obtain ⟨L, hL⟩ : ∃ L, saidL n l nm k = L := ⟨_, rfl⟩
              rw [hL] at HO HLS HS1 HS2 hLn ⊢
              clear hL
              by_cases h1 : x < cp
              · have HNX := mkHid (HS2.out (by omega))
                have HPC : Hid (∀ v, Below w.heap.size w v → Calls Tryd.prog 23 #[.int .i64 (i : Int), .int .i64 (j : Int), .int .i64 x, .slice (some ⟨b, off, none⟩) nm.length cap] v fun e w' => e = .returned (.string (pieceT nm i j x)) ∧ Below v.heap.size v w') := mkHid fun v hb => factText_any i j x nm b off cap v HF.out (HN.out.below hb) (HT.out.below hb) (fun e => by have := HIJ.out e; have := HEN.out.2.2.1 e; omega) (by have := HLE.out; omega) (by have := HLE.out; omega) HEN.out.1 HEN.out.2.2.2
                obtain ⟨pc, hpc⟩ : ∃ y, pieceT nm i j x = y := ⟨_, rfl⟩
                rw [hpc] at HPC HNX
                clear hpc HS1 HS2 HIJ HEN
                go_wp2_with fail
                go_quiet (fail)
                go_wp2_with fail
                refine (HCA.out _).mono ?_
                rintro e w5 ⟨rfl, rfl⟩
                go_wp2_with fail
                refine (HPC.out (wr.drewN _) (HB.out.bel.trans ⟨rfl, rfl, rfl, Nat.le_refl _, fun _ _ => rfl⟩)).mono ?_
                rintro e w6 ⟨rfl, hb⟩
                have hbw : Below wr.heap.size wr w6 := ⟨hb.os, hb.tape, hb.output, hb.size, hb.block⟩
                have HB6 := mkHid (HB.out.below hbw)
                have HO6 := mkHid (HO.out.below hbw)
                have HOWN : Hid ((w6.alloc (.cells #[.string pc] 9)).ownsRow (w.heap.size + 1) 9 1 (.slice so L.length sc) L.length (strs L)) := mkHid (World.ownsRow.alloc HO6.out _)
                have hs6 := HB6.out.lt
                clear hb hbw HB HO p0 d0
                go_wp2_with (at_builtin; refine wpList_append_lies _ rfl _ _ 25 rfl (w.heap.size + 1) 9 i0 (.string ⟨#[]⟩) 1 16 Tryd.underlying25 HI.out.1 HI.out.2.1 HI.out.2.2.1 HI.out.2.2.2 rfl (by decide) (.slice so L.length sc) L.length (strs L) rfl HOWN.out ⟨w6.heap.size, 0, none⟩ 1 1 [.string pc] rfl (by rfl) (World.news_of_block (heap_alloc_last w6 _)) (fun u hu => by simp at hu; rcases hu with rfl; rfl) (by decide) (by unfold maxLen; omega) (by omega) (by simp; omega) (w6.heap.size + 1) (by simp) ?_; intro g' cap' w7 hown hgrow hat hlt4)
                have HB7 := mkHid ((HB6.out.below ((Below.refl w6.heap.size w6).alloc (Nat.le_refl _) (.cells #[.string pc] 9))).grown hgrow (fun q' hq' => (HOWN.out.lt q' hq').1))
                have HO7 : Hid (OwnS w7 (w.heap.size + 1) (.slice (some ⟨g', 0, none⟩) (L.length + 1) cap') (L ++ [pc])) := mkHid (by unfold OwnS; rw [← strs_snoc, List.length_append]; exact hown)
                clear hown hgrow hat hlt4
                go_wp2
                go_roundg g
                case measure => omega
                case rel => exact ⟨k + 1, some ⟨g', 0, none⟩, cap', by omega, by go_num, by rw [HNX.out, List.length_append]; rfl, by rw [HNX.out, List.length_append]; exact HO7.out, HB7.out⟩
              · have HNX := mkHid (HS1.out (by have := HEN.out.2.1; omega))
                clear HS1 HS2 HIJ HEN
                go_wp2_with fail
                go_quiet (fail)
                go_wp2_with fail
                refine (HCA.out _).mono ?_
                rintro e w5 ⟨rfl, rfl⟩
                go_wp2
                go_roundg g
                case measure => omega
                case rel => exact ⟨k + 1, so, sc, by omega, by go_num, by rw [HNX.out], by rw [HNX.out]; exact HO.out.below ⟨rfl, rfl, rfl, Nat.le_refl _, fun _ _ => rfl⟩, HB.out.below ⟨rfl, rfl, rfl, Nat.le_refl _, fun _ _ => rfl⟩⟩
      · have hb3 : ((nm.length : Int) != (n : Int) - 1) = true := by simpa using hle
        have E := mkHid (show factsT n l nm = ⟨#[]⟩ by unfold factsT fitB; rw [hno]; simp [hle])
        clear hle
        go_enter Tryd.func9, Tryd.ntmps9
        go_wp2_with fail
        rw [HW1.out]
        go_wp2_with fail
        refine (HNO.out _).mono ?_
        rintro e w2 ⟨rfl, hb⟩
        have B1 := mkHid (B0.out.below hb)
        clear hb p0 p1
        have p0 := B1.out.c0
        have p1 := B1.out.c1
        go_wp2_with fail
        refine (HOK.out _ B1.out.bel).mono ?_
        rintro e w3 ⟨rfl, hb⟩
        have B2 := mkHid (B1.out.below hb)
        clear hb p0 p1
        have p0 := B2.out.c0
        have p1 := B2.out.c1
        go_wp2
        go_ret
        exact ⟨ret_str E.out.symm, B2.out.bel⟩
end Go.Proofs.YthfiblldccnjcaaDoor
