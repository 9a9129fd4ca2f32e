/-
  CONTRACTS of the program's staysSmall and isSmall.
-/
import Derived.Test.YtncdhmogkgefaabDoorOpen
namespace Go.Proofs.YtncdhmogkgefaabDoor
open Go.RowKit

theorem deps_mem {ks : List T} {t : T} (h : t ∈ ks) : dep t ≤ deps ks := by
  induction ks with
  | nil => cases h
  | cons x r ih =>
    simp only [deps]
    rcases List.mem_cons.1 h with rfl | h
    · omega
    · have := ih h; omega
theorem deps_take_last {ks : List T} {i : Nat} {t : T} (h : ks[i]? = some t) : deps (ks.take (i + 1)) = max (deps (ks.take i)) (dep t) := deps_take h

/-- What stands at the pointer. -/
def At (w : World) (pb : Nat) (l : Nat) : Prop := w.cell? ⟨pb, 0, none⟩ = some (.int .i64 l) ∧ w.frozen? ⟨pb, 0, none⟩ = false

theorem At.alloc {w : World} {pb l : Nat} (h : At w pb l) (ob : Obj) : At (w.alloc ob) pb l :=
  ⟨(((Below.refl w.heap.size w).alloc (Nat.le_refl _) ob).cell (p := ⟨pb, 0, none⟩) (World.block_lt_of_cell? w _ h.1)).trans h.1, (((Below.refl w.heap.size w).alloc (Nat.le_refl _) ob).frozen (p := ⟨pb, 0, none⟩) (World.block_lt_of_cell? w _ h.1)).trans h.2⟩
theorem At.set {w : World} {pb l : Nat} (h : At w pb l) {x : Int} (l' : Nat) (hx : x = l') : At (w.setCell ⟨pb, 0, none⟩ (.int .i64 x)) pb l' := by
  subst hx
  exact ⟨World.cell?_setCell_same' w _ _ (by rw [h.1]; rfl), by simpa using h.2⟩

def StOk (t : T) : Prop := match t with
  | .node k s m kk => ∀ (w0 w : World) (a : Option Addr) (c : Nat) (deep l pb : Nat), kk.length ≤ maxLen → Kids w0 0 a kk → Below w0.heap.size w0 w → w0.heap.size ≤ pb → At w pb l → deep ≤ 1000 → l ≤ 1000 →
    Calls Tryd.prog 37 #[.agg #[.int .i64 k, .string s, .int .i64 m, .slice a kk.length c], .int .i64 deep, .pointer (some ⟨pb, 0, none⟩)] w fun e w' =>
      (∃ l', e = .returned (.bool (decide (dep t ≤ deep ∧ cnt t ≤ l))) ∧ At w' pb l' ∧ (dep t ≤ deep → cnt t ≤ l → l' + cnt t = l)) ∧ Below w0.heap.size w0 w'

theorem dep_pos (t : T) : 1 ≤ dep t := by cases t; simp [dep]
theorem cnt_pos (t : T) : 1 ≤ cnt t := by cases t; simp [cnt]

set_option maxHeartbeats 1600000 in
theorem stays_ok (t : T) : StOk t := by
  refine T.induct ?_ t
  intro k s m kk IH w0 w a c deep l pb hn hk hb hpb hat hd hl
  unfold maxLen at hn
  have HI := mkHid IH
  have HK := mkHid hk
  have HB := mkHid hb
  have hlt : pb < w.heap.size := World.block_lt_of_cell? w _ hat.1
  have hsz := hb.size
  have HP := mkHid hpb
  obtain ⟨p0, f0⟩ := hat
  clear IH hk hb hpb
  have A0 := mkHid (HB.out.alloc hsz (.cells #[.int .i64 k, .string s, .int .i64 m, .slice a kk.length c] 29))
  have HW := mkHid (show At w pb l from ⟨p0, f0⟩)
  have HA := mkHid (HW.out.alloc (.cells #[.int .i64 k, .string s, .int .i64 m, .slice a kk.length c] 29))
  by_cases h0 : deep = 0
  · subst h0
    go_enter Tryd.func37, Tryd.ntmps37
    go_wp2
    go_ret
    have h := dep_pos (.node k s m kk)
    exact ⟨⟨l, by rw [decide_eq_false (by omega)]; rfl, HA.out, fun h1 => by omega⟩, A0.out⟩
  · have hd0 : ((deep : Int) == 0) = false := by simp; omega
    by_cases h1 : l = 0
    · subst h1
      go_enter Tryd.func37, Tryd.ntmps37
      go_wp2
      go_ret
      have h := cnt_pos (.node k s m kk)
      exact ⟨⟨0, by rw [decide_eq_false (by omega)]; rfl, HA.out, fun h1 => by omega⟩, A0.out⟩
    · have hl0 : ((l : Int) == 0) = false := by simp; omega
      have hwl : w0.heap.size ≤ w.heap.size := hsz
      go_enter Tryd.func37, Tryd.ntmps37
      go_wp2
      go_loopw [25] (fun i w' => ∃ (j l' : Nat), j ≤ kk.length ∧ i = .int .i64 j ∧ At w' pb l' ∧ deps (kk.take j) + 1 ≤ deep ∧ l' + cnts (kk.take j) + 1 = l ∧ Below w0.heap.size w0 w') (fun i _ => kk.length - (intOf i).toNat)
      case atStart =>
        exact ⟨0, l - 1, Nat.zero_le _, rfl, (HW.out.set (l - 1) (by omega)).alloc _, by simp [deps]; omega, by simp [cnts]; omega, (HB.out.setCell (p := ⟨pb, 0, none⟩) HP.out _).alloc (by simp; omega) _⟩
      case round =>
        obtain ⟨j, l', hj, rfl, ⟨r0, r1⟩, hdep, hcnt, hbel⟩ := hrel
        have HB1 := mkHid hbel
        have HR := mkHid (And.intro hdep hcnt)
        have hl' : l' ≤ 1000 := by omega
        clear hbel hdep hcnt p0 f0 HA A0 HW
        by_cases hjl : j < kk.length
        · obtain ⟨x, hx⟩ : ∃ x, kk[j]? = some x := ⟨_, List.getElem?_eq_getElem hjl⟩
          have HX := mkHid hx
          rcases HK.out with rfl | ⟨b, o, rfl, _, hll⟩
          · simp at hx
          obtain ⟨xk, xs, xm, xkk⟩ := x
          obtain ⟨xa, xc, hc0, hc1, hc2, hc3, hs, hkn, hkids⟩ := hll.at hx
          have hbl := World.block_lt_of_cell? w0 _ hc0
          obtain ⟨g, _⟩ := bcell (W := w0) (w1 := wr) HB1.out
          have d0 := (g _ _ hbl).trans hc0
          have d1 := (g _ _ hbl).trans hc1
          have d2 := (g _ _ hbl).trans hc2
          have d3 := (g _ _ hbl).trans hc3
          have hsr := HB1.out.size
          have HC := mkHid (HI.out _ (List.mem_of_getElem? hx) w0 (wr.alloc (.cells #[.int .i64 xk, .string xs, .int .i64 xm, .slice xa xkk.length xc] 29)) xa xc (deep - 1) l' pb hkn hkids (HB1.out.alloc hsr _) HP.out
            (At.alloc ⟨r0, r1⟩ _) (by omega) hl')
          have hdd : ((deep - 1 : Nat) : Int) = (deep : Int) - 1 := by omega
          rw [hdd] at HC
          clear hx hs hkn hkids hll hc0 hc1 hc2 hc3 g hdd
          go_wp2_with fail
          refine HC.out.mono ?_
          rintro e w1 ⟨⟨l1, rfl, ⟨z0, z1⟩, hfin⟩, hb1⟩
          have HB2 := mkHid hb1
          have HF := mkHid hfin
          have hdx := deps_take HX.out
          have hcx := cnts_take HX.out
          have HT := mkHid (And.intro hdx hcx)
          clear hb1 hfin HC hdx hcx r0 r1
          by_cases hok : dep (.node xk xs xm xkk) ≤ deep - 1 ∧ cnt (.node xk xs xm xkk) ≤ l'
          · have hb : decide (dep (.node xk xs xm xkk) ≤ deep - 1 ∧ cnt (.node xk xs xm xkk) ≤ l') = true := decide_eq_true hok
            rw [hb]
            have HO := mkHid hok
            clear hb hok
            go_wp2
            go_roundw
            case rel =>
              have h2 := HR.out
              have h3 := HT.out
              have h4 := HO.out
              have h5 := HF.out h4.1 h4.2
              exact ⟨j + 1, l1, by omega, by go_num, ⟨z0, z1⟩, by omega, by omega, HB2.out⟩
            case measure => simp [intOf]; omega
          · have hb : decide (dep (.node xk xs xm xkk) ≤ deep - 1 ∧ cnt (.node xk xs xm xkk) ≤ l') = false := decide_eq_false hok
            rw [hb]
            have HO := mkHid hok
            clear hb hok
            go_wp2
            go_ret
            have h2 := HR.out
            have h3 := HT.out
            have h4 := HO.out
            have h5 := deps_mem (List.mem_of_getElem? HX.out)
            have h6 := cnts_take_le kk (j + 1)
            have h7 : ¬ (dep (.node k s m kk) ≤ deep ∧ cnt (.node k s m kk) ≤ l) := by
              simp only [dep, cnt] at h4 h5 h6 h3 ⊢
              omega
            exact ⟨⟨l1, by rw [decide_eq_false h7]; rfl, ⟨z0, z1⟩, fun g1 g2 => absurd ⟨g1, g2⟩ h7⟩, HB2.out⟩
        · go_wp2
          go_ret
          have h2 := HR.out
          rw [List.take_of_length_le (by omega)] at h2
          refine ⟨⟨l', by rw [decide_eq_true (by simp only [dep, cnt]; omega)]; rfl, ⟨r0, r1⟩, fun _ _ => by simp only [cnt]; omega⟩, HB1.out⟩

set_option maxHeartbeats 400000 in
theorem isSmall_ok (k : Int) (s : ByteArray) (m : Int) (kk : List T) (a : Option Addr) (c : Nat) (w : World) (hn : kk.length ≤ maxLen) (hk : Kids w 0 a kk) :
    Calls Tryd.prog 25 #[.agg #[.int .i64 k, .string s, .int .i64 m, .slice a kk.length c]] w fun e w' => e = .returned (.bool (decide (dep (.node k s m kk) ≤ 24 ∧ cnt (.node k s m kk) ≤ 500))) ∧ Below w.heap.size w w' := by
  have HN := mkHid hn
  have HK := mkHid hk
  clear hn hk
  go_enter Tryd.func25, Tryd.ntmps25
  go_wp2_with fail
  refine (stays_ok (.node k s m kk) w _ a c 24 500 (w.heap.size + 1) HN.out HK.out (((Below.refl _ _).alloc (Nat.le_refl _) _).alloc (by simp) _) (by omega) ⟨by simp [go_sem], by simp [go_sem]⟩ (by omega) (by omega)).mono ?_
  rintro e w1 ⟨⟨l1, rfl, _, _⟩, hb1⟩
  have HB := mkHid hb1
  generalize hq : decide (dep (.node k s m kk) ≤ 24 ∧ cnt (.node k s m kk) ≤ 500) = q
  have HQ := mkHid hq
  clear hb1 hq
  go_wp2
  go_ret
  exact ⟨by rw [HQ.out]; rfl, HB.out⟩
end Go.Proofs.YtncdhmogkgefaabDoor
