/-
  FnExactSymRead's own walk: at every text and every row of names the law answers true, where what a reader leans on (Env) is so.
-/
import Derived.Test.YtiihjoliodemmaaDoorSrs
import Derived.Test.YtiihjoliodemmaaDoorSrr
import Derived.Test.YtiihjoliodemmaaDoorSyi
namespace Go.Proofs.YtiihjoliodemmaaDoor
open Go.ChangeShapes Go.WideShapes Go.ChangeAt Go.RowKit Go.Joins Go.Deep
open Go.ChangeMaps (open_string shut_string)

set_option maxRecDepth 100000 in
theorem eqSym_same (a b : Int) (w : World) : Calls Tryd.prog 27 #[.agg #[.int .i64 a, .int .i64 b], .agg #[.int .i64 a, .int .i64 b]] w fun e w' => e = .returned (.bool true) ∧ Below w.heap.size w w' := by
  go_enter Tryd.func27, Tryd.ntmps27
  go_wp2
  go_ret
  exact ⟨rfl, ((Below.refl _ _).alloc (Nat.le_refl _) _).alloc (by simp) _⟩
set_option maxRecDepth 100000 in
set_option maxHeartbeats 3200000 in
theorem symread_walk (s : ByteArray) (l : List ByteArray) (a : Option Addr) (cap : Nat) (w : World) (hE : Env w) (hn : l.length ≤ maxLen) (hl : StrsOf w l a) (hx : ∀ (i : Nat) (x : ByteArray), l[i]? = some x → x.size ≤ maxLen) : Calls Tryd.prog 7 #[.string s, .slice a l.length cap] w fun e w' => e = .returned (.bool true) ∧ Below w.heap.size w w' := by
  have hne : ∀ b : Bool, (b != b) = false := by simp
  have HE := mkHid hE
  have HL := mkHid hl
  have HX := mkHid hx
  have HN := mkHid hn
  clear hl hx hn hE
  by_cases hM : s.size ≤ 1048576
  · have hM2 : ¬ (1048576 : Int) < (s.size : Int) := by omega
    go_enter Tryd.func7, Tryd.ntmps7
    go_wp2_with fail
    refine (szStrS_any l a cap _ HN.out HL.out HX.out).mono ?_
    rintro e w1 ⟨rz, rfl, hfit, hrz, rfl⟩
    have HFT := mkHid hfit
    clear hfit
    rcases hrz with hrz | hrz
    · go_wp2
      go_ret
      exact ⟨rfl, Below.refl _ _⟩
    have hrz2 : ¬ rz < 0 := by omega
    have HF := mkHid (HFT.out hrz)
    have HLE := mkHid HF.out.1
    clear HFT
    go_wp2_with fail
    refine (toStrS_any l a cap _ HLE.out HL.out).mono ?_
    rintro e w2 ⟨g1, rfl, hI, hb⟩
    have HG1 := mkHid hI
    have BE := mkHid hb
    clear hI hb
    go_wp2_with fail
    refine (sSymRead_of s l g1 0 l.length _ hM HF.out HG1.out).mono ?_
    rintro e w3 ⟨r, rfl, h1, hb⟩
    have HI : Hid (∀ (v : World) (g : Nat), Below w.heap.size w v → StrsIn v l g 0 → Calls Tryd.prog 26 #[.string s, .slice (some ⟨g, 0, none⟩) l.length l.length] v fun e w' => e = .returned (retR r) ∧ Below v.heap.size v w') := mkHid fun v g hv hg => (iSymRead_of s l g 0 l.length v (HE.out.below hv) hM HF.out hg).mono fun e w2 ⟨r2, e1, h2, hb⟩ => ⟨by rw [e1, readS_same h1 h2], hb⟩
    have BE := mkHid (below_step BE.out hb)
    clear h1 hb HE HG1
    unfold retR at *
    obtain ⟨ra, hra⟩ : ∃ x, (r.getD (0, 0)).1 = x := ⟨_, rfl⟩
    obtain ⟨rb, hrb⟩ : ∃ x, (r.getD (0, 0)).2 = x := ⟨_, rfl⟩
    obtain ⟨ro, hro⟩ : ∃ x, r.isSome = x := ⟨_, rfl⟩
    rw [hra, hrb, hro] at HI
    rw [hra, hrb, hro]
    have hno := hne ro
    clear hra hrb hro hne
    obtain ⟨w4, hw4⟩ : ∃ x : World, w3.alloc (.cells #[.int .i64 ra, .int .i64 rb] 44) = x := ⟨_, rfl⟩
    have HX4 : Hid (Box w4 w3.heap.size ra rb) := mkHid (by rw [← hw4]; exact Box.new w3 ra rb 44)
    have BE : Hid (Below w.heap.size w w4) := mkHid (by rw [← hw4]; exact bl_alloc BE.out _)
    have HW4 := mkHid hw4
    clear hw4
    go_wp2_with fail
    rw [HW4.out]
    clear HW4
    refine (toStrS_any l a cap _ HLE.out (HL.out.below BE.out)).mono ?_
    rintro e w5 ⟨g2, rfl, hI, hb⟩
    have HG2 := mkHid hI
    have BE := mkHid (below_step BE.out hb)
    have HX4 := mkHid (HX4.out.below hb)
    clear hI hb
    go_wp2_with fail
    refine (HI.out _ g2 BE.out HG2.out).mono ?_
    rintro e w6 ⟨rfl, hb⟩
    have HG2 := mkHid (HG2.out.below hb)
    have BE := mkHid (below_step BE.out hb)
    have HX4 := HX4.out.below hb
    clear hb HI
    obtain ⟨z0, hz0⟩ : ∃ n : Nat, w3.heap.size = n := ⟨_, rfl⟩
    rw [hz0] at HX4
    have hxl := HX4.lt
    obtain ⟨x0, x1, x2, x3⟩ := HX4
    go_wp2_with fail
    refine (eqSym_same ra rb _).mono ?_
    rintro e w7 ⟨rfl, hb⟩
    have HG2 := mkHid ((HG2.out.below ((Below.refl _ _).alloc (Nat.le_refl _) _)).below hb)
    have BE := mkHid (below_step (bl_alloc BE.out _) hb)
    clear hb x0 x1 x2 x3
    go_wp2_with fail
    refine (toStrS_any l a cap _ HLE.out (HL.out.below BE.out)).mono ?_
    rintro e w8 ⟨g3, rfl, hI, hb⟩
    have HG2 := mkHid (HG2.out.below hb)
    have HG3 := mkHid hI
    have BE := mkHid (below_step BE.out hb)
    clear hI hb
    go_wp2_with fail
    refine (eqStrS_of l g2 0 _ g3 0 _ _ HN.out HG2.out HG3.out).mono ?_
    rintro e w9 ⟨rfl, hb⟩
    have BE := mkHid (below_step BE.out hb)
    clear hb
    go_wp2
    go_ret
    exact ⟨rfl, BE.out⟩
  · have hM2 : (1048576 : Int) < (s.size : Int) := by omega
    go_enter Tryd.func7, Tryd.ntmps7
    go_wp2
    go_ret
    exact ⟨rfl, Below.refl _ _⟩
end Go.Proofs.YtiihjoliodemmaaDoor
