/-
  A TREE THAT CAME IN, OPENED; four cells of a struct.
  CONTRACTS of the program's staysSmall and isSmall.
-/
import Derived.Test.YthccohemcagkcaaGreatDoorGb
import Derived.ProofKit
import Derived.OpenShut
import Derived.ShutString
import Derived.ChangeOld
import Derived.Lib.SmallJoins
namespace Go.Proofs.YthccohemcagkcaaGreatDoor
open Go.ChangeShapes Go.WideShapes Go.ChangeAt Go.RowKit Go.Joins Go.Deep

theorem Tryz.own : ownKnob Tryz.prog.godebug = none := by kernel_rfl
theorem Tryz.laidOut : laidOutB Tryz.prog = true := by kernel_rfl
theorem Tryz.cells42 : Tryz.prog.cellsOf 42 = 4 := by kernel_rfl
theorem Tryz.cells3 : Tryz.prog.cellsOf 3 = 1 := by kernel_rfl
theorem Tryz.cells9 : Tryz.prog.cellsOf 9 = 1 := by kernel_rfl
theorem Tryz.cells40 : Tryz.prog.cellsOf 40 = 1 := by kernel_rfl
theorem list_of_fn (f : Nat → T) (n : Nat) : ∃ ws : List T, ws.length = n ∧ ∀ i x, ws[i]? = some x → i < n ∧ x = f i := by
  refine ⟨(List.range n).map f, by simp, fun i x hx => ?_⟩
  obtain ⟨hi, e⟩ := List.getElem?_eq_some_iff.1 hx
  simp at hi e
  exact ⟨hi, e.symm⟩
set_option maxRecDepth 100000 in
theorem open_kids {H : Type} {enc : TypeId × Value → H} {W : World} : ∀ (z : Nat) {n : Nat} {v : Value} {x : DataW H × List MemPlace}, SizeOf.sizeOf x.1 < z → DataW.trod enc Tryz.prog W 0 (fun _ => true) true n 40 [v] = some x →
    ∃ (a : Option Addr) (c : Nat) (kk : List T), v = .slice a kk.length c ∧ kk.length ≤ maxLen ∧ Kids W 0 a kk := by
  intro z
  induction z with
  | zero => intro n v x h; omega
  | succ z ih =>
    intro n v x hz h
    rcases open_slice Tryz.underlying40 h with ⟨hcs, _⟩ | ⟨ad, len, cap, m', n2, D, Pl, hcs, _, hl, hm, hmm, hy, hall⟩
    · simp at hcs
      subst hcs
      exact ⟨none, 0, [], rfl, by simp, .inl rfl⟩
    · simp at hcs
      subst hcs
      simp only [if_true] at hmm
      rw [Tryz.cells42] at hall
      have hD : ∀ i, i < len → SizeOf.sizeOf (D i) < z := fun i hi => by
        have h5 : D i ∈ (List.range len).map D := List.mem_map.2 ⟨i, List.mem_range.2 hi, rfl⟩
        have h6 := List.sizeOf_lt_of_mem h5
        rw [hy] at hz
        simp at hz
        omega
      by_cases h0 : len = 0
      · subst h0
        exact ⟨some ad, cap, [], rfl, by simp, .inl rfl⟩
      have one : ∀ i, i < len → ∃ (k : Int) (s : ByteArray) (mm : Int) (a : Option Addr) (c : Nat) (kk : List T), W.cells? 0 (ad.add (i * 4)) 4 = some [.int .i64 k, .string s, .int .i64 mm, .slice a kk.length c] ∧ s.size ≤ maxLen ∧ kk.length ≤ maxLen ∧ Kids W 0 a kk := by
        intro i hi
        obtain ⟨cs', q1, q2⟩ := hall i (by omega)
        obtain ⟨y0, y1, y2, y3, n', hx, hlen, h0, h1, h2, h3⟩ := trod_struct4 Tryz.underlying42 q2
        rw [Tryz.cells42] at hlen
        match cs', hlen with
        | [c0, c1, c2, c3], _ =>
          simp [Tryz.cells3, Tryz.cells9, Tryz.cells40] at h0 h1 h2 h3
          obtain ⟨x0, e0, _, _⟩ := DataW.trod_int Tryz.underlying3 h0
          obtain ⟨x1, e1, _, hs⟩ := DataW.trod_string Tryz.underlying9 h1
          obtain ⟨x2, e2, _, _⟩ := DataW.trod_int Tryz.underlying3 h2
          simp at e0 e1 e2
          subst e0 e1 e2
          have hsz := hD i hi
          have hx' : D i = _ := congrArg Prod.fst hx
          rw [hx'] at hsz
          simp at hsz
          obtain ⟨a, c, kk, rfl, hn, hk⟩ := ih (by omega) h3
          exact ⟨x0, x1, x2, a, c, kk, q1, hs, hn, hk⟩
      have hsp : ad.spot = none := by
        obtain ⟨_, _, _, _, _, _, q1, _⟩ := one 0 (by omega)
        obtain ⟨_, _, hc⟩ := World.cells?_some q1
        have := World.cell?_spot (hc 0 (by omega))
        simpa [Addr.add] using this
      obtain ⟨b, off, spot⟩ := ad
      simp only at hsp
      subst hsp
      have each : ∀ i, i < len → ∃ t : T, Lies W 0 t b (off + i * 4) := by
        intro i hi
        obtain ⟨k, s, mm, a, c, kk, q1, hs', hn', hk⟩ := one i hi
        obtain ⟨_, _, hc⟩ := World.cells?_some q1
        have g0 := hc 0 (by omega)
        have g1 := hc 1 (by omega)
        have g2 := hc 2 (by omega)
        have g3 := hc 3 (by omega)
        rw [add_plain, add_plain] at g0 g1 g2 g3
        refine ⟨.node k s mm kk, ?_⟩
        unfold Lies
        exact ⟨g0, g1, g2, hs', hn', a, c, g3, hk⟩
      have inh : Inhabited T := ⟨.node 0 ⟨#[]⟩ 0 []⟩
      obtain ⟨f, hf'⟩ := choose_lt each
      obtain ⟨ws, hwl, hws⟩ := list_of_fn f len
      refine ⟨some ⟨b, off, none⟩, cap, ws, by rw [hwl], by omega, .inr ⟨b, off, rfl, Nat.zero_le _, LiesL.of fun i t ht => ?_⟩⟩
      obtain ⟨hi, rfl⟩ := hws i t ht
      exact hf' i hi

def Four (w : World) (b : Nat) (k : Int) (s : ByteArray) (m : Int) (a : Option Addr) (n c : Nat) : Prop :=
  w.cell? ⟨b, 0, none⟩ = some (.int .i64 k) ∧ w.cell? ⟨b, 1, none⟩ = some (.string s) ∧ w.cell? ⟨b, 2, none⟩ = some (.int .i64 m) ∧ w.cell? ⟨b, 3, none⟩ = some (.slice a n c)
theorem Four.below {w w' : World} {b : Nat} {k : Int} {s : ByteArray} {m : Int} {a : Option Addr} {n c : Nat} (h : Four w b k s m a n c) (hb : Below w.heap.size w w') : Four w' b k s m a n c := by
  obtain ⟨h0, h1, h2, h3⟩ := h
  have hlt := World.block_lt_of_cell? w _ h0
  have hc : ∀ q, w'.cell? ⟨b, q, none⟩ = w.cell? ⟨b, q, none⟩ := fun q => hb.cell (p := ⟨b, q, none⟩) hlt
  exact ⟨(hc _).trans h0, (hc _).trans h1, (hc _).trans h2, (hc _).trans h3⟩
theorem Four.new (w : World) (k : Int) (s : ByteArray) (m : Int) (a : Option Addr) (n c t : Nat) : Four (w.alloc (.cells #[.int .i64 k, .string s, .int .i64 m, .slice a n c] t)) w.heap.size k s m a n c :=
  ⟨by simp [go_sem], by simp [go_sem], by simp [go_sem], by simp [go_sem]⟩

end Go.Proofs.YthccohemcagkcaaGreatDoor
namespace Go.Proofs.YthccohemcagkcaaGreatDoor
open Go.RowKit

theorem deps_mem {ks : List T} {t : T} (h : t ∈ ks) : dep t ≤ deps ks := by
  induction ks with
  | nil => cases h
  | cons x r ih =>
    simp only [deps]
    rcases List.mem_cons.1 h with rfl | h
    · omega
    · have := ih h; omega
theorem deps_take_last {ks : List T} {i : Nat} {t : T} (h : ks[i]? = some t) : deps (ks.take (i + 1)) = max (deps (ks.take i)) (dep t) := deps_take h

/-- What stands at the pointer. -/
def At (w : World) (pb : Nat) (l : Nat) : Prop := w.cell? ⟨pb, 0, none⟩ = some (.int .i64 l) ∧ w.frozen? ⟨pb, 0, none⟩ = false

theorem At.alloc {w : World} {pb l : Nat} (h : At w pb l) (ob : Obj) : At (w.alloc ob) pb l :=
  ⟨(((Below.refl w.heap.size w).alloc (Nat.le_refl _) ob).cell (p := ⟨pb, 0, none⟩) (World.block_lt_of_cell? w _ h.1)).trans h.1, (((Below.refl w.heap.size w).alloc (Nat.le_refl _) ob).frozen (p := ⟨pb, 0, none⟩) (World.block_lt_of_cell? w _ h.1)).trans h.2⟩
theorem At.set {w : World} {pb l : Nat} (h : At w pb l) {x : Int} (l' : Nat) (hx : x = l') : At (w.setCell ⟨pb, 0, none⟩ (.int .i64 x)) pb l' := by
  subst hx
  exact ⟨World.cell?_setCell_same' w _ _ (by rw [h.1]; rfl), by simpa using h.2⟩

def StOk (t : T) : Prop := match t with
  | .node k s m kk => ∀ (w0 w : World) (a : Option Addr) (c : Nat) (deep l pb : Nat), kk.length ≤ maxLen → Kids w0 0 a kk → Below w0.heap.size w0 w → w0.heap.size ≤ pb → At w pb l → deep ≤ 1000 → l ≤ 1000 →
    Calls Tryz.prog 66 #[.agg #[.int .i64 k, .string s, .int .i64 m, .slice a kk.length c], .int .i64 deep, .pointer (some ⟨pb, 0, none⟩)] w fun e w' =>
      (∃ l', e = .returned (.bool (decide (dep t ≤ deep ∧ cnt t ≤ l))) ∧ At w' pb l' ∧ (dep t ≤ deep → cnt t ≤ l → l' + cnt t = l)) ∧ Below w0.heap.size w0 w'

theorem dep_pos (t : T) : 1 ≤ dep t := by cases t; simp [dep]
theorem cnt_pos (t : T) : 1 ≤ cnt t := by cases t; simp [cnt]

set_option maxHeartbeats 1600000 in
theorem stays_ok (t : T) : StOk t := by
  refine T.induct ?_ t
  intro k s m kk IH w0 w a c deep l pb hn hk hb hpb hat hd hl
  unfold maxLen at hn
  have HI := mkHid IH
  have HK := mkHid hk
  have HB := mkHid hb
  have hlt : pb < w.heap.size := World.block_lt_of_cell? w _ hat.1
  have hsz := hb.size
  have HP := mkHid hpb
  obtain ⟨p0, f0⟩ := hat
  clear IH hk hb hpb
  have A0 := mkHid (HB.out.alloc hsz (.cells #[.int .i64 k, .string s, .int .i64 m, .slice a kk.length c] 26))
  have HW := mkHid (show At w pb l from ⟨p0, f0⟩)
  have HA := mkHid (HW.out.alloc (.cells #[.int .i64 k, .string s, .int .i64 m, .slice a kk.length c] 26))
  by_cases h0 : deep = 0
  · subst h0
    go_enter Tryz.func66, Tryz.ntmps66
    go_wp2
    go_ret
    have h := dep_pos (.node k s m kk)
    exact ⟨⟨l, by rw [decide_eq_false (by omega)]; rfl, HA.out, fun h1 => by omega⟩, A0.out⟩
  · have hd0 : ((deep : Int) == 0) = false := by simp; omega
    by_cases h1 : l = 0
    · subst h1
      go_enter Tryz.func66, Tryz.ntmps66
      go_wp2
      go_ret
      have h := cnt_pos (.node k s m kk)
      exact ⟨⟨0, by rw [decide_eq_false (by omega)]; rfl, HA.out, fun h1 => by omega⟩, A0.out⟩
    · have hl0 : ((l : Int) == 0) = false := by simp; omega
      have hwl : w0.heap.size ≤ w.heap.size := hsz
      go_enter Tryz.func66, Tryz.ntmps66
      go_wp2
      go_loopw [25] (fun i w' => ∃ (j l' : Nat), j ≤ kk.length ∧ i = .int .i64 j ∧ At w' pb l' ∧ deps (kk.take j) + 1 ≤ deep ∧ l' + cnts (kk.take j) + 1 = l ∧ Below w0.heap.size w0 w') (fun i _ => kk.length - (intOf i).toNat)
      case atStart =>
        exact ⟨0, l - 1, Nat.zero_le _, rfl, (HW.out.set (l - 1) (by omega)).alloc _, by simp [deps]; omega, by simp [cnts]; omega, (HB.out.setCell (p := ⟨pb, 0, none⟩) HP.out _).alloc (by simp; omega) _⟩
      case round =>
        obtain ⟨j, l', hj, rfl, ⟨r0, r1⟩, hdep, hcnt, hbel⟩ := hrel
        have HB1 := mkHid hbel
        have HR := mkHid (And.intro hdep hcnt)
        have hl' : l' ≤ 1000 := by omega
        clear hbel hdep hcnt p0 f0 HA A0 HW
        by_cases hjl : j < kk.length
        · obtain ⟨x, hx⟩ : ∃ x, kk[j]? = some x := ⟨_, List.getElem?_eq_getElem hjl⟩
          have HX := mkHid hx
          rcases HK.out with rfl | ⟨b, o, rfl, _, hll⟩
          · simp at hx
          obtain ⟨xk, xs, xm, xkk⟩ := x
          obtain ⟨xa, xc, hc0, hc1, hc2, hc3, hs, hkn, hkids⟩ := hll.at hx
          have hbl := World.block_lt_of_cell? w0 _ hc0
          obtain ⟨g, _⟩ := bcell (W := w0) (w1 := wr) HB1.out
          have d0 := (g _ _ hbl).trans hc0
          have d1 := (g _ _ hbl).trans hc1
          have d2 := (g _ _ hbl).trans hc2
          have d3 := (g _ _ hbl).trans hc3
          have hsr := HB1.out.size
          have HC := mkHid (HI.out _ (List.mem_of_getElem? hx) w0 (wr.alloc (.cells #[.int .i64 xk, .string xs, .int .i64 xm, .slice xa xkk.length xc] 26)) xa xc (deep - 1) l' pb hkn hkids (HB1.out.alloc hsr _) HP.out
            (At.alloc ⟨r0, r1⟩ _) (by omega) hl')
          have hdd : ((deep - 1 : Nat) : Int) = (deep : Int) - 1 := by omega
          rw [hdd] at HC
          clear hx hs hkn hkids hll hc0 hc1 hc2 hc3 g hdd
          go_wp2_with fail
          refine HC.out.mono ?_
          rintro e w1 ⟨⟨l1, rfl, ⟨z0, z1⟩, hfin⟩, hb1⟩
          have HB2 := mkHid hb1
          have HF := mkHid hfin
          have hdx := deps_take HX.out
          have hcx := cnts_take HX.out
          have HT := mkHid (And.intro hdx hcx)
          clear hb1 hfin HC hdx hcx r0 r1
          by_cases hok : dep (.node xk xs xm xkk) ≤ deep - 1 ∧ cnt (.node xk xs xm xkk) ≤ l'
          · have hb : decide (dep (.node xk xs xm xkk) ≤ deep - 1 ∧ cnt (.node xk xs xm xkk) ≤ l') = true := decide_eq_true hok
            rw [hb]
            have HO := mkHid hok
            clear hb hok
            go_wp2
            go_roundw
            case rel =>
              have h2 := HR.out
              have h3 := HT.out
              have h4 := HO.out
              have h5 := HF.out h4.1 h4.2
              exact ⟨j + 1, l1, by omega, by go_num, ⟨z0, z1⟩, by omega, by omega, HB2.out⟩
            case measure => simp [intOf]; omega
          · have hb : decide (dep (.node xk xs xm xkk) ≤ deep - 1 ∧ cnt (.node xk xs xm xkk) ≤ l') = false := decide_eq_false hok
            rw [hb]
            have HO := mkHid hok
            clear hb hok
            go_wp2
            go_ret
            have h2 := HR.out
            have h3 := HT.out
            have h4 := HO.out
            have h5 := deps_mem (List.mem_of_getElem? HX.out)
            have h6 := cnts_take_le kk (j + 1)
            have h7 : ¬ (dep (.node k s m kk) ≤ deep ∧ cnt (.node k s m kk) ≤ l) := by
              simp only [dep, cnt] at h4 h5 h6 h3 ⊢
              omega
            exact ⟨⟨l1, by rw [decide_eq_false h7]; rfl, ⟨z0, z1⟩, fun g1 g2 => absurd ⟨g1, g2⟩ h7⟩, HB2.out⟩
        · go_wp2
          go_ret
          have h2 := HR.out
          rw [List.take_of_length_le (by omega)] at h2
          refine ⟨⟨l', by rw [decide_eq_true (by simp only [dep, cnt]; omega)]; rfl, ⟨r0, r1⟩, fun _ _ => by simp only [cnt]; omega⟩, HB1.out⟩

set_option maxHeartbeats 400000 in
theorem isSmall_ok (k : Int) (s : ByteArray) (m : Int) (kk : List T) (a : Option Addr) (c : Nat) (w : World) (hn : kk.length ≤ maxLen) (hk : Kids w 0 a kk) :
    Calls Tryz.prog 31 #[.agg #[.int .i64 k, .string s, .int .i64 m, .slice a kk.length c]] w fun e w' => e = .returned (.bool (decide (dep (.node k s m kk) ≤ 24 ∧ cnt (.node k s m kk) ≤ 500))) ∧ Below w.heap.size w w' := by
  have HN := mkHid hn
  have HK := mkHid hk
  clear hn hk
  go_enter Tryz.func31, Tryz.ntmps31
  go_wp2_with fail
  refine (stays_ok (.node k s m kk) w _ a c 24 500 (w.heap.size + 1) HN.out HK.out (((Below.refl _ _).alloc (Nat.le_refl _) _).alloc (by simp) _) (by omega) ⟨by simp [go_sem], by simp [go_sem]⟩ (by omega) (by omega)).mono ?_
  rintro e w1 ⟨⟨l1, rfl, _, _⟩, hb1⟩
  have HB := mkHid hb1
  generalize hq : decide (dep (.node k s m kk) ≤ 24 ∧ cnt (.node k s m kk) ≤ 500) = q
  have HQ := mkHid hq
  clear hb1 hq
  go_wp2
  go_ret
  exact ⟨by rw [HQ.out]; rfl, HB.out⟩
end Go.Proofs.YthccohemcagkcaaGreatDoor
