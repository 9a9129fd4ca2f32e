/-
  CONTRACT of l07DrawSize: it answers, with a row of its own.
-/
import Derived.Test.YtgclngofigffdaaFo14
namespace Go.Proofs.Ytgclngofigffdaa
open Go.RowKit

/-- Facts in a box that may be written. -/
def Fq (w : World) (b : Nat) (z : Int) (a : Option Addr) (n c : Nat) : Prop := Fc w b z a n c ∧ w.frozen? ⟨b, 0, none⟩ = false ∧ w.frozen? ⟨b, 1, none⟩ = false
theorem Fq.lt {w : World} {b : Nat} {z : Int} {a : Option Addr} {n c : Nat} (h : Fq w b z a n c) : b < w.heap.size := h.1.lt
theorem Fq.below {w w' : World} {b : Nat} {z : Int} {a : Option Addr} {n c : Nat} (h : Fq w b z a n c) (hb : Below w.heap.size w w') : Fq w' b z a n c :=
  ⟨h.1.below hb, (bcell hb).2 b 0 h.lt |>.trans h.2.1, (bcell hb).2 b 1 h.lt |>.trans h.2.2⟩
theorem Fq.grown {w w' : World} {b : Nat} {z : Int} {a : Option Addr} {n c : Nat} {row : Option Nat} (h : Fq w b z a n c) (hg : w.grownBy w' row) (hr : some b ≠ row) : Fq w' b z a n c :=
  ⟨h.1.grown hg hr, (hg.frozen_far ⟨b, 0, none⟩ h.lt hr).trans h.2.1, (hg.frozen_far ⟨b, 1, none⟩ h.lt hr).trans h.2.2⟩
theorem Fq.new (w : World) (z : Int) (a : Option Addr) (n c : Nat) : Fq (w.alloc (.cells #[.int .i64 z, .slice a n c] 26)) w.heap.size z a n c := ⟨Fc.new w z a n c 26, by simp [go_sem], by simp [go_sem]⟩
theorem own_addr {w : World} {base n c : Nat} {sa : Option Addr} {l : List Int} (h : OwnI w base (.slice sa n c) l) (hl : 0 < l.length) : ∃ g, sa = some ⟨g, 0, none⟩ := by
  rcases h.2 with ⟨h1, h2⟩ | ⟨g, cap, cur, h1, _⟩
  · omega
  · cases h1; exact ⟨g, rfl⟩
theorem own_cap {w : World} {base n c : Nat} {sa : Option Addr} {l : List Int} (h : OwnI w base (.slice sa n c) l) : l.length ≤ c := by
  rcases h.2 with ⟨h1, h2⟩ | ⟨g, cap, cur, h1, _, _, h3, _⟩
  · omega
  · cases h1; exact h3
theorem grown_over {w w' w'' : World} {r : Option Nat} {q : Nat} (h : w.grownBy w' r) (hg : w'.grownBy w'' (some q)) (hq : w.heap.size ≤ q) : w.grownBy w'' r :=
  ⟨hg.os.trans h.os, hg.tape.trans h.tape, hg.output.trans h.output, Nat.le_trans h.size hg.size, fun k hk hr => (hg.block k (Nat.lt_of_lt_of_le hk h.size) (some_ne (by omega))).trans (h.block k hk hr)⟩
theorem topO_some {n : Nat} (h1 : 1 ≤ n) (h2 : n ≤ 13) : topO (n : Int) = some capT := by unfold topO; rw [show btw (n : Int) 1 13 = true from decide_eq_true (by omega)]; rfl
theorem cap_fine (n : Nat) : Fine n capT := fun i j _ _ => by
  have := cap_le i j
  exact ⟨by omega, by omega, fun e => by subst e; exact cap_same rfl⟩
set_option maxRecDepth 100000 in
set_option maxHeartbeats 6400000 in
theorem drawSize_any (sz cb n cap bud : Nat) (a : Option Addr) (w : World) (h1 : 1 ≤ sz) (h2 : sz ≤ 13) (hC : Cur w cb a n cap (bud + 200)) :
    Calls Try.prog 73 #[.pointer (some ⟨cb, 0, none⟩), .int .i64 sz] w fun e w' => ∃ (z : Int) (l : List Int) (ao : Option Addr) (cp : Nat), e = .returned (.agg #[.int .i64 z, .slice ao l.length cp]) ∧ z ≤ 20 ∧ l.length ≤ 169 ∧ l.length ≤ cp ∧ OwnI w' w.heap.size (.slice ao l.length cp) l ∧ Cur w' cb a n cap bud ∧ w.grownBy w' (some cb) := by
  obtain ⟨i0, hi, hzz'⟩ := Option.map_eq_some_iff.1 Try.info3
  simp only [Prod.mk.injEq] at hzz'
  obtain ⟨hz0, hz1, hz2⟩ := hzz'
  have HI := mkHid (show Try.prog.info? 3 = some i0 ∧ i0.zero = some (.int .i64 0) ∧ i0.size = 1 ∧ i0.bytes = 8 from ⟨hi, hz0, hz1, hz2⟩)
  have hlt := hC.lt
  have C0 := mkHid (hC.alloc (.cells #[.int .i64 0, .slice none 0 0] 26))
  have G0 := mkHid (World.grownBy_alloc w (.cells #[.int .i64 0, .slice none 0 0] 26) (some cb))
  have Z0 := mkHid (Fz.new w)
  have HTOP : Hid (∀ v, Calls Try.prog 81 #[.int .i64 sz] v fun e w' => Gives v w' e sz (mk sz capT)) := mkHid fun v => by
    have := sTop_any (sz : Int) v
    rw [topO_some h1 h2, Int.toNat_natCast] at this
    exact this
  have hsp := sq_pos h1
  have hsq := sq_le h2
  clear hC hi hz0 hz1 hz2
  go_enter Try.func73, Try.ntmps73
  go_wp2_with fail
  refine (HTOP.out _).mono ?_
  rintro e w1 ⟨sa, sc, rfl, so, hb⟩
  have so' := so
  rw [mk_len] at so'
  obtain ⟨gm, rfl⟩ := own_addr so (by rw [mk_len]; omega)
  have hgm := so.lt (q := gm) rfl
  have hR : w.heap.size < (w.alloc (.cells #[.int .i64 0, .slice none 0 0] 26)).heap.size := Z0.out.lt
  obtain ⟨bf, hbf⟩ : ∃ b, w1.heap.size = b := ⟨_, rfl⟩
  rw [mk_len]
  obtain ⟨s, hs⟩ : ∃ s, sz * sz = s := ⟨_, rfl⟩
  rw [hs] at so' hsp hsq
  rw [hs]
  have HS := mkHid hs
  have A1 := below_alloc w1 (.cells #[.int .i64 sz, .slice (some ⟨gm, 0, none⟩) s sc] 26)
  have C1 := (C0.out.below hb).below A1
  have G1 := grown_alloc (grown_trans G0.out (grown_of_below hb (some cb))) (.cells #[.int .i64 sz, .slice (some ⟨gm, 0, none⟩) s sc] 26)
  have Z1 := (Z0.out.below hb).below A1
  have F1 := Fq.new w1 sz (some ⟨gm, 0, none⟩) s sc
  rw [hbf] at F1
  have M1 := (so'.mono (base' := w.heap.size + 1) (by omega)).below A1
  have hbs : gm < bf ∧ w.heap.size + 1 ≤ gm := by omega
  obtain ⟨w2, hw2⟩ : ∃ w2, w1.alloc (.cells #[.int .i64 sz, .slice (some ⟨gm, 0, none⟩) s sc] 26) = w2 := ⟨_, rfl⟩
  rw [hw2] at C1 G1 Z1 F1 M1 A1
  have l2 := F1.lt
  have A2 := below_alloc w2 (.cells #[.int .i64 0] 3)
  have C2 := mkHid (C1.below A2)
  have G2 := mkHid (grown_alloc G1 (.cells #[.int .i64 0] 3))
  have Z2 := mkHid (Z1.below A2)
  have F2 := mkHid (F1.below A2)
  have M2 := mkHid (M1.below A2)
  have V2 : Hid (OwnI (w2.alloc (.cells #[.int .i64 0] 3)) w2.heap.size (.slice (some ⟨w2.heap.size, 0, none⟩) 1 1) [0]) := mkHid ⟨rfl, .inr ⟨w2.heap.size, 1, #[.int .i64 0], rfl, Nat.le_refl _, by have := heap_alloc_new w2 (.cells #[.int .i64 0] 3); simpa using this, Nat.le_refl _, by unfold maxLen; omega, rfl, rfl⟩⟩
  have HW2 := mkHid hw2
  have hbv : bf < w2.heap.size := l2
  have hw2s : w2.heap.size = bf + 1 := by rw [← hw2, ← hbf]; simp
  clear hb so so' hgm hR A1 A2 C1 G1 Z1 F1 M1 hw2 l2 hs C0 G0 Z0
  obtain ⟨w3, hw3⟩ : ∃ w3, w2.alloc (.cells #[.int .i64 0] 3) = w3 := ⟨_, rfl⟩
  rw [hw3] at C2 G2 Z2 F2 M2 V2
  have HW3 := mkHid hw3
  clear hw3
  go_wp2_with fail
  rw [HW2.out, HW3.out]
  go_loopg [6, 7] (sz - 1) (fun gh s6 s7 wr => ∃ (i : Nat) (vl : List Int) (ao : Option Addr) (vc : Nat), i + gh = sz ∧ 1 ≤ i ∧ vl.length = i ∧ (∀ x ∈ vl, -6 ≤ x ∧ x ≤ 17) ∧ s7 = .int .i64 i ∧ s6 = .slice ao i vc ∧ OwnI wr w2.heap.size (.slice ao i vc) vl ∧ Cur wr cb a n cap (bud + 180 + gh) ∧ w.grownBy wr (some cb) ∧ Fz wr w.heap.size ∧ Fq wr bf sz (some ⟨gm, 0, none⟩) s sc ∧ OwnI wr (w.heap.size + 1) (.slice (some ⟨gm, 0, none⟩) s sc) (mk sz capT))
  case atStart => exact ⟨1, [0], some ⟨w2.heap.size, 0, none⟩, 1, by omega, by omega, rfl, by simp, rfl, by rw [hw2s], V2.out, C2.out.less (by omega), G2.out, Z2.out, F2.out, M2.out⟩
  case round =>
    obtain ⟨i, vl, ao, vc, hig, hi1, hvl, hvb, rfl, rfl, hV, hC, hG, hZ, hF, hM⟩ := hrel
    have V0 := mkHid hV
    have C0 := mkHid hC
    have G0 := mkHid hG
    have Z0 := mkHid hZ
    have F0 := mkHid hF
    have M0 := mkHid hM
    have HVL := mkHid hvl
    have HVB := mkHid hvb
    obtain ⟨gv, rfl⟩ := own_addr hV (by omega)
    have lgv := hV.lt (q := gv) rfl
    clear hV hC hG hZ hF hM hvl hvb V2 C2 G2 Z2 F2 M2
    cases gk with
    | zero =>
      have hle : ¬ ((i : Int) < (sz : Int)) := by omega
      have e : i = sz := by omega
      subst e
      have hw3 : IntKind.i64.wrap ((3 : Int) * (i : Int)) = ((3 * i : Nat) : Int) := by rw [show ((3 : Int) * (i : Int)) = ((3 * i : Nat) : Int) by omega]; exact IntWalk.i64_in _ (by omega)
      obtain ⟨k3, hk3⟩ : ∃ k, 3 * i = k := ⟨_, rfl⟩
      rw [hk3] at hw3
      have C0 := mkHid (C0.out.less (bud' := bud + 179 + 1) (by omega))
      have VB : Hid (∀ x, x < i → -6 ≤ vl.getD x 0 ∧ vl.getD x 0 ≤ 17) := mkHid fun x hx => HVB.out _ (by rw [List.getD_eq_getElem?_getD, List.getElem?_eq_getElem (by have := HVL.out; omega)]; exact List.getElem_mem _)
      go_wp2_with fail
      refine (pick_any (k3 : Int) cb n cap (bud + 179) a _ (by omega) C0.out).mono ?_
      rintro e w4 ⟨r, rfl, ra, rb, hC, hG⟩
      have C1 := mkHid hC
      have G1 := mkHid (grown_trans G0.out hG)
      have Z1 := mkHid (Z0.out.grown hG (some_ne (by omega)))
      have F1 := mkHid (F0.out.grown hG (some_ne (by omega)))
      have M1 := mkHid (M0.out.grown hG (fun q hq => some_ne (by have := M0.out.lt hq; omega)))
      have V1 := mkHid (V0.out.grown hG (fun q hq => some_ne (by have := V0.out.lt hq; omega)))
      clear hC hG C0 G0 Z0 F0 M0 V0
      obtain ⟨m, rfl⟩ : ∃ m : Nat, r = m := ⟨r.toNat, by omega⟩
      have hm38 : m ≤ 38 := by omega
      have e0 : Hid (∀ x y, x < i → y < i → vl.getD x 0 - vl.getD y 0 ≤ capT x y) := mkHid fun x y hx hy => by
        have h3 := VB.out x hx
        have h4 := VB.out y hy
        by_cases h : x = y
        · subst h; rw [cap_same rfl]; omega
        · have : 1000000 ≤ capT x y := by unfold capT; rw [if_neg h]; split <;> omega
          omega
      go_wp2_with fail
      go_loopg [8] m (fun gh s8 wr => ∃ T : Tab, s8 = .int .i64 gh ∧ gh ≤ 38 ∧ Fine i T ∧ (∀ x y, x < i → y < i → vl.getD x 0 - vl.getD y 0 ≤ T x y) ∧ OwnI wr (w.heap.size + 1) (.slice (some ⟨gm, 0, none⟩) s sc) (mk i T) ∧ OwnI wr w2.heap.size (.slice (some ⟨gv, 0, none⟩) i vc) vl ∧ Cur wr cb a n cap (bud + 50 + 3 * gh) ∧ w.grownBy wr (some cb) ∧ Fz wr w.heap.size ∧ Fq wr bf i (some ⟨gm, 0, none⟩) s sc)
      case atStart => exact ⟨capT, rfl, hm38, cap_fine i, e0.out, M1.out, V1.out, C1.out.less (by omega), G1.out, Z1.out, F1.out⟩
      case round =>
        obtain ⟨T, rfl, hg38, hfine, hsat, hM, hV, hC, hG, hZ, hF⟩ := hrel
        have HFI := mkHid hfine
        have HSA := mkHid hsat
        have M2 := mkHid hM
        have V2 := mkHid hV
        have C2 := mkHid hC
        have G2 := mkHid hG
        have Z2 := mkHid hZ
        have F2 := mkHid hF
        clear hfine hsat hM hV hC hG hZ hF M1 V1 C1 G1 Z1 F1
        cases gk with
        | zero =>
          have hk0 : ¬ (0 : Int) < ((0 : Nat) : Int) := by omega
          have C2 := mkHid (C2.out.less (bud' := bud + 45 + 1) (by omega))
          have HOKT := mkHid (ok_mk h1 h2 HFI.out)
          have HCLT := mkHid (sat_clo (v := fun x => vl.getD x 0) HSA.out)
          have HCLO : Hid (∀ v, IntsAt v (some ⟨gm, 0, none⟩) (mk i T) → Calls Try.prog 17 #[.agg #[.int .i64 i, .slice (some ⟨gm, 0, none⟩) s sc]] v fun e w' => Gives v w' e i (mk i (clo i (tab i (mk i T))))) := mkHid fun v hv => by
            have h := sClose_any (i : Int) (mk i T) (some ⟨gm, 0, none⟩) sc v hv
            rw [mk_len, HS.out, okO_yes HOKT.out, Int.toNat_natCast] at h
            have e : (some (tab i (mk i T))).bind (cloO i) = some (clo i (tab i (mk i T))) := by simp only [Option.bind_some, cloO]; rw [if_pos]; exact (sat_clo (v := fun x => vl.getD x 0) (fun x y hx hy => by have := HSA.out x y hx hy; rw [show tab i (mk i T) x y = T x y from mk_V i T x y hx hy]; exact this)).1
            rw [e] at h
            refine h.mono fun e2 w' hh => ?_
            have e3 : outL (some (clo i (tab i (mk i T)))) i = mk i (clo i (tab i (mk i T))) := rfl
            rw [e3] at hh
            exact hh
          go_wp2_with fail
          refine (once_any 2 cb n cap (bud + 45) a _ (by omega) (by omega) C2.out).mono ?_
          rintro e w5 ⟨r, rfl, hC, hG⟩
          have C3 := mkHid hC
          have G3 := mkHid (grown_trans G2.out hG)
          have Z3 := mkHid (Z2.out.grown hG (some_ne (by omega)))
          have F3 := mkHid (F2.out.grown hG (some_ne (by omega)))
          have M3 := mkHid (M2.out.grown hG (fun q hq => some_ne (by have := M2.out.lt hq; omega)))
          clear hC hG C2 G2 Z2 F2 M2
          cases r
          · skip
            go_wp2_with fail
            refine (pick_any 24 cb n cap (bud + 40) a _ (by omega) (C3.out.less (bud' := bud + 40 + 1) (by omega))).mono ?_
            rintro e wt ⟨r, rfl, ra, rb, hC, hG⟩
            have C4 := mkHid hC
            have G4 := mkHid (grown_trans G3.out hG)
            have Z4 := mkHid (Z3.out.grown hG (some_ne (by omega)))
            have F4 := mkHid (F3.out.grown hG (some_ne (by omega)))
            have M4 := mkHid (M3.out.grown hG (fun q hq => some_ne (by have := M3.out.lt hq; omega)))
            clear hC hG C3 G3 Z3 F3 M3
            obtain ⟨⟨f0, f1⟩, f2, f3⟩ := F4.out
            have lM := M4.out.lt (q := gm) rfl
            have lF := F4.out.lt
            have hLs : (mk i T).length = s := by have := M4.out.len; omega
            by_cases h0 : r = 0
            · subst h0
              have D1 := mkHid ((C4.out.less (bud' := bud + 10 + 2 + 1) (by omega)).below (Below.refl _ _).drew)
              have D2 := mkHid (M4.out.below (Below.refl _ _).drew)
              have D4 := mkHid (Z4.out.below (Below.refl _ _).drew)
              have D5 := mkHid (F4.out.below (Below.refl _ _).drew)
              have D6 := mkHid (grown_trans G4.out (grown_of_below (Below.refl _ _).drew (some cb)))
              clear f0 f2 f3 C4 M4 Z4 F4 G4
              go_wp2_with fail
              go_region_held3 (fun v => v.cell? ⟨bf, 1, none⟩ = some (.slice (some ⟨gm, 0, none⟩) s sc))
                (first | exact f1 | exact S7 | exact S8 | exact S9 _)
                (first | (go_at_call 72; refine (pick_any (s : Int) cb n cap (bud + 10 + 2) a _ (by omega) D1.out).mono ?_; rintro e w7 ⟨r3, rfl, r3a, r3b, hC7, hG7⟩; have S7 := hG7.cell (a := ⟨bf, 1, none⟩) f1 (some_ne (by show bf ≠ cb; omega)); obtain ⟨k, rfl⟩ : ∃ k : Nat, r3 = k := ⟨r3.toNat, by omega⟩; have hk1 : (k : Int) < (s : Int) := by omega) | (go_at_call 79; refine (number_any cb n cap (bud + 10) a _ hC7).mono ?_; rintro e w8 ⟨r4, rfl, r4a, r4b, hC8, hG8⟩; have S8 := hG8.cell (a := ⟨bf, 1, none⟩) S7 (some_ne (by show bf ≠ cb; omega)); have M8 := (D2.out.grown hG7 (fun q' hq' => some_ne (by have e : gm = q' := Option.some.inj hq'; omega))).grown hG8 (fun q' hq' => some_ne (by have e : gm = q' := Option.some.inj hq'; omega)); have co7 := M8.cell (p := k) (by omega); have fo7 := M8.free k; have S9 := fun u => (World.cell?_setCell_far w8 ⟨gm, k, none⟩ ⟨bf, 1, none⟩ u (by show gm ≠ bf; omega)).trans S8))
              have hg := grown_setCell w8 ⟨gm, k, none⟩ (.int .i64 r4)
              have M99 := mkHid (M8.stored k r4).1
              have Z99 := mkHid (((D4.out.grown hG7 (some_ne (by omega))).grown hG8 (some_ne (by omega))).grown hg (some_ne (by show w.heap.size ≠ gm; omega)))
              have F99 := mkHid (((D5.out.grown hG7 (some_ne (by omega))).grown hG8 (some_ne (by omega))).grown hg (some_ne (by show bf ≠ gm; omega)))
              have C99 := mkHid (hC8.set (p := ⟨gm, k, none⟩) (by show cb < gm; omega) (.int .i64 r4))
              have G99 := mkHid (grown_new (p := ⟨gm, k, none⟩) (grown_trans (grown_trans D6.out hG7) hG8) (by show w.heap.size ≤ gm; omega) (.int .i64 r4))
              clear hg S7 S8 S9 M8 co7 fo7 hC7 hG7 hC8 hG8 f1
              obtain ⟨⟨f0, f1⟩, f2, f3⟩ := F99.out
              obtain ⟨⟨z0, z1⟩, z2, z3⟩ := Z99.out
              have HLen : Hid (s = ((mk i T).set k r4).length) := mkHid (by have := M99.out.len; omega)
              have HCap := mkHid (own_cap M99.out)
              have HO := mkHid (fun u0 u1 => ((M99.out.mono (base' := w.heap.size) (by omega)).grown (grown_setCell _ ⟨w.heap.size, 0, none⟩ u0) (fun q' hq' => some_ne (by have e : gm = q' := Option.some.inj hq'; show w.heap.size ≠ q'; omega))).grown (grown_setCell _ ⟨w.heap.size, 1, none⟩ u1) (fun q' hq' => some_ne (by have e : gm = q' := Option.some.inj hq'; show w.heap.size ≠ q'; omega)))
              have HCC := mkHid (fun u0 u1 => ((C99.out.less (bud' := bud) (by omega)).set (p := ⟨w.heap.size, 0, none⟩) hlt u0).set (p := ⟨w.heap.size, 1, none⟩) hlt u1)
              have HGG := mkHid (fun u0 u1 => grown_new (p := ⟨w.heap.size, 1, none⟩) (grown_new (p := ⟨w.heap.size, 0, none⟩) G99.out (Nat.le_refl _) u0) (Nat.le_refl _) u1)
              go_wp2
              refine bodyPost_ret (v := .agg #[.int .i64 i, .slice (some ⟨gm, 0, none⟩) s sc]) (by simp [results, Try.results73, go_sem, z0, z1]) rfl ⟨i, (mk i T).set k r4, some ⟨gm, 0, none⟩, sc, by rw [← HLen.out], by omega, by rw [← HLen.out]; exact hsq, HCap.out, ?_, HCC.out _ _, HGG.out _ _⟩
              rw [← HLen.out]; exact HO.out _ _
            have e0 : (r == 0) = false := by simp [h0]
            by_cases h1 : r = 1
            · subst h1
              have C4 := mkHid (C4.out.less (bud' := bud + 10 + 1) (by omega))
              clear f0 f1
              go_wp2_with fail
              refine (pick_any 16 cb n cap (bud + 10) a _ (by omega) C4.out).mono ?_
              rintro e wu ⟨ru, rfl, rua, rub, hC, hG⟩
              have C5 := mkHid hC
              have G5 := mkHid (grown_trans G4.out hG)
              have Z5 := mkHid (Z4.out.grown hG (some_ne (by omega)))
              have F5 := mkHid (F4.out.grown hG (some_ne (by omega)))
              have M5 := mkHid (M4.out.grown hG (fun q hq => some_ne (by have := M4.out.lt hq; omega)))
              clear hC hG C4 G4 Z4 F4 M4
              obtain ⟨⟨f0, f1⟩, f2, f3⟩ := F5.out
              have hg := grown_setCell wu ⟨bf, 0, none⟩ (.int .i64 ru)
              have F99 : Hid (Fq (wu.setCell ⟨bf, 0, none⟩ (.int .i64 ru)) bf ru (some ⟨gm, 0, none⟩) s sc) := mkHid ⟨⟨by simp [go_sem, *], by simp [go_sem, *]⟩, by simp [go_sem, *], by simp [go_sem, *]⟩
              have Z99 := mkHid (Z5.out.grown hg (some_ne (by show w.heap.size ≠ bf; omega)))
              have M99 := mkHid (M5.out.grown hg (fun q' hq' => some_ne (by have e : gm = q' := Option.some.inj hq'; show bf ≠ q'; omega)))
              have C99 := mkHid (C5.out.set (p := ⟨bf, 0, none⟩) (by show cb < bf; omega) (.int .i64 ru))
              have G99 := mkHid (grown_new (p := ⟨bf, 0, none⟩) G5.out (by show w.heap.size ≤ bf; omega) (.int .i64 ru))
              obtain ⟨⟨f0, f1⟩, f2, f3⟩ := F99.out
              obtain ⟨⟨z0, z1⟩, z2, z3⟩ := Z99.out
              have HLen : Hid (s = (mk i T).length) := mkHid (by have := M99.out.len; omega)
              have HCap := mkHid (own_cap M99.out)
              have HO := mkHid (fun u0 u1 => ((M99.out.mono (base' := w.heap.size) (by omega)).grown (grown_setCell _ ⟨w.heap.size, 0, none⟩ u0) (fun q' hq' => some_ne (by have e : gm = q' := Option.some.inj hq'; show w.heap.size ≠ q'; omega))).grown (grown_setCell _ ⟨w.heap.size, 1, none⟩ u1) (fun q' hq' => some_ne (by have e : gm = q' := Option.some.inj hq'; show w.heap.size ≠ q'; omega)))
              have HCC := mkHid (fun u0 u1 => ((C99.out.less (bud' := bud) (by omega)).set (p := ⟨w.heap.size, 0, none⟩) hlt u0).set (p := ⟨w.heap.size, 1, none⟩) hlt u1)
              have HGG := mkHid (fun u0 u1 => grown_new (p := ⟨w.heap.size, 1, none⟩) (grown_new (p := ⟨w.heap.size, 0, none⟩) G99.out (Nat.le_refl _) u0) (Nat.le_refl _) u1)
              go_wp2
              refine bodyPost_ret (v := .agg #[.int .i64 ru, .slice (some ⟨gm, 0, none⟩) s sc]) (by simp [results, Try.results73, go_sem, z0, z1]) rfl ⟨ru, mk i T, some ⟨gm, 0, none⟩, sc, by rw [← HLen.out], by omega, by rw [← HLen.out]; exact hsq, HCap.out, ?_, HCC.out _ _, HGG.out _ _⟩
              rw [← HLen.out]; exact HO.out _ _
            have e1 : (r == 1) = false := by simp [h1]
            by_cases h2 : r = 2
            · subst h2
              obtain ⟨⟨z0, z1⟩, z2, z3⟩ := Z4.out
              have HCC := mkHid (fun u0 u1 => ((C4.out.less (bud' := bud) (by omega)).set (p := ⟨w.heap.size, 0, none⟩) hlt u0).set (p := ⟨w.heap.size, 1, none⟩) hlt u1)
              have HGG := mkHid (fun u0 u1 => grown_new (p := ⟨w.heap.size, 1, none⟩) (grown_new (p := ⟨w.heap.size, 0, none⟩) G4.out (Nat.le_refl _) u0) (Nat.le_refl _) u1)
              go_wp2
              exact bodyPost_ret (v := .agg #[.int .i64 0, .slice none 0 0]) (by simp [results, Try.results73, go_sem, z0, z1]) rfl ⟨0, [], none, 0, rfl, by omega, by simp, by simp, OwnI.nil _ _, HCC.out _ _, HGG.out _ _⟩
            have e2 : (r == 2) = false := by simp [h2]
            by_cases h3 : r = 3
            · subst h3
              by_cases hi1 : 1 < i
              · have hi1' : (1 : Int) < (i : Int) := by omega
                have his : i < s := by have h9 : i * 1 < i * i := Nat.mul_lt_mul_of_pos_left hi1 (by omega); have h8 := HS.out; omega
                have his' : (i : Int) < (s : Int) := by omega
                have h1s : (1 : Int) < (s : Int) := by omega
                have co1 := M4.out.cell (p := 1) (by omega)
                have fo1 := M4.out.free 1
                have coi := M4.out.cell (p := i) (by omega)
                have foi := M4.out.free i
                have hg1 := grown_setCell wt ⟨gm, 1, none⟩ (.int .i64 (-2))
                have hg2 := grown_setCell (wt.setCell ⟨gm, 1, none⟩ (.int .i64 (-2))) ⟨gm, i, none⟩ (.int .i64 1)
                have M99 := mkHid ((M4.out.stored 1 (-2)).1.stored i 1).1
                have Z99 := mkHid ((Z4.out.grown hg1 (some_ne (by show w.heap.size ≠ gm; omega))).grown hg2 (some_ne (by show w.heap.size ≠ gm; omega)))
                have F99 := mkHid ((F4.out.grown hg1 (some_ne (by show bf ≠ gm; omega))).grown hg2 (some_ne (by show bf ≠ gm; omega)))
                have C99 := mkHid ((C4.out.set (p := ⟨gm, 1, none⟩) (by show cb < gm; omega) (.int .i64 (-2))).set (p := ⟨gm, i, none⟩) (by show cb < gm; omega) (.int .i64 1))
                have G99 := mkHid (grown_new (p := ⟨gm, i, none⟩) (grown_new (p := ⟨gm, 1, none⟩) G4.out (by show w.heap.size ≤ gm; omega) (.int .i64 (-2))) (by show w.heap.size ≤ gm; omega) (.int .i64 1))
                have hgb : gm ≠ bf := by omega
                have hgb2 : bf ≠ gm := by omega
                obtain ⟨⟨f0, f1⟩, f2, f3⟩ := F99.out
                obtain ⟨⟨z0, z1⟩, z2, z3⟩ := Z99.out
                have HLen : Hid (s = (((mk i T).set 1 (-2)).set i 1).length) := mkHid (by have := M99.out.len; omega)
                have HCap := mkHid (own_cap M99.out)
                have HO := mkHid (fun u0 u1 => ((M99.out.mono (base' := w.heap.size) (by omega)).grown (grown_setCell _ ⟨w.heap.size, 0, none⟩ u0) (fun q' hq' => some_ne (by have e : gm = q' := Option.some.inj hq'; show w.heap.size ≠ q'; omega))).grown (grown_setCell _ ⟨w.heap.size, 1, none⟩ u1) (fun q' hq' => some_ne (by have e : gm = q' := Option.some.inj hq'; show w.heap.size ≠ q'; omega)))
                have HCC := mkHid (fun u0 u1 => ((C99.out.less (bud' := bud) (by omega)).set (p := ⟨w.heap.size, 0, none⟩) hlt u0).set (p := ⟨w.heap.size, 1, none⟩) hlt u1)
                have HGG := mkHid (fun u0 u1 => grown_new (p := ⟨w.heap.size, 1, none⟩) (grown_new (p := ⟨w.heap.size, 0, none⟩) G99.out (Nat.le_refl _) u0) (Nat.le_refl _) u1)
                go_wp2
                refine bodyPost_ret (v := .agg #[.int .i64 i, .slice (some ⟨gm, 0, none⟩) s sc]) (by simp [results, Try.results73, go_sem, z0, z1]) rfl ⟨i, ((mk i T).set 1 (-2)).set i 1, some ⟨gm, 0, none⟩, sc, by rw [← HLen.out], by omega, by rw [← HLen.out]; exact hsq, HCap.out, ?_, HCC.out _ _, HGG.out _ _⟩
                rw [← HLen.out]; exact HO.out _ _
              · have hi1' : ¬ (1 : Int) < (i : Int) := by omega
                obtain ⟨⟨f0, f1⟩, f2, f3⟩ := F4.out
                obtain ⟨⟨z0, z1⟩, z2, z3⟩ := Z4.out
                have HLen : Hid (s = (mk i T).length) := mkHid (by have := M4.out.len; omega)
                have HCap := mkHid (own_cap M4.out)
                have HO := mkHid (fun u0 u1 => ((M4.out.mono (base' := w.heap.size) (by omega)).grown (grown_setCell _ ⟨w.heap.size, 0, none⟩ u0) (fun q' hq' => some_ne (by have e : gm = q' := Option.some.inj hq'; show w.heap.size ≠ q'; omega))).grown (grown_setCell _ ⟨w.heap.size, 1, none⟩ u1) (fun q' hq' => some_ne (by have e : gm = q' := Option.some.inj hq'; show w.heap.size ≠ q'; omega)))
                have HCC := mkHid (fun u0 u1 => ((C4.out.less (bud' := bud) (by omega)).set (p := ⟨w.heap.size, 0, none⟩) hlt u0).set (p := ⟨w.heap.size, 1, none⟩) hlt u1)
                have HGG := mkHid (fun u0 u1 => grown_new (p := ⟨w.heap.size, 1, none⟩) (grown_new (p := ⟨w.heap.size, 0, none⟩) G4.out (Nat.le_refl _) u0) (Nat.le_refl _) u1)
                go_wp2
                refine bodyPost_ret (v := .agg #[.int .i64 i, .slice (some ⟨gm, 0, none⟩) s sc]) (by simp [results, Try.results73, go_sem, z0, z1]) rfl ⟨i, mk i T, some ⟨gm, 0, none⟩, sc, by rw [← HLen.out], by omega, by rw [← HLen.out]; exact hsq, HCap.out, ?_, HCC.out _ _, HGG.out _ _⟩
                rw [← HLen.out]; exact HO.out _ _
            have e3 : (r == 3) = false := by simp [h3]
            clear h0 h1 h2 h3
            obtain ⟨⟨f0, f1⟩, f2, f3⟩ := F4.out
            obtain ⟨⟨z0, z1⟩, z2, z3⟩ := Z4.out
            have HLen : Hid (s = (mk i T).length) := mkHid (by have := M4.out.len; omega)
            have HCap := mkHid (own_cap M4.out)
            have HO := mkHid (fun u0 u1 => ((M4.out.mono (base' := w.heap.size) (by omega)).grown (grown_setCell _ ⟨w.heap.size, 0, none⟩ u0) (fun q' hq' => some_ne (by have e : gm = q' := Option.some.inj hq'; show w.heap.size ≠ q'; omega))).grown (grown_setCell _ ⟨w.heap.size, 1, none⟩ u1) (fun q' hq' => some_ne (by have e : gm = q' := Option.some.inj hq'; show w.heap.size ≠ q'; omega)))
            have HCC := mkHid (fun u0 u1 => ((C4.out.less (bud' := bud) (by omega)).set (p := ⟨w.heap.size, 0, none⟩) hlt u0).set (p := ⟨w.heap.size, 1, none⟩) hlt u1)
            have HGG := mkHid (fun u0 u1 => grown_new (p := ⟨w.heap.size, 1, none⟩) (grown_new (p := ⟨w.heap.size, 0, none⟩) G4.out (Nat.le_refl _) u0) (Nat.le_refl _) u1)
            go_wp2
            refine bodyPost_ret (v := .agg #[.int .i64 i, .slice (some ⟨gm, 0, none⟩) s sc]) (by simp [results, Try.results73, go_sem, z0, z1]) rfl ⟨i, mk i T, some ⟨gm, 0, none⟩, sc, by rw [← HLen.out], by omega, by rw [← HLen.out]; exact hsq, HCap.out, ?_, HCC.out _ _, HGG.out _ _⟩
            rw [← HLen.out]; exact HO.out _ _
          · obtain ⟨⟨f0, f1⟩, f2, f3⟩ := F3.out
            have lF3 := F3.out.lt
            go_wp2_with fail
            refine (HCLO.out _ M3.out.at).mono ?_
            rintro e w7 ⟨xa, xc, rfl, xo, hb7⟩
            obtain ⟨g2, rfl⟩ := own_addr xo (by rw [mk_len, HS.out]; omega)
            have lx := xo.lt (q := g2) rfl
            have xo' := xo
            rw [mk_len, HS.out] at xo'
            rw [mk_len, HS.out]
            have F7 := F3.out.below hb7
            obtain ⟨⟨k0, k1⟩, k2, k3⟩ := F7
            have gA := grown_setCell w7 ⟨bf, 0, none⟩ (.int .i64 i)
            have gB := grown_setCell (w7.setCell ⟨bf, 0, none⟩ (.int .i64 i)) ⟨bf, 1, none⟩ (.slice (some ⟨g2, 0, none⟩) s xc)
            have F4 : Hid (Fq ((w7.setCell ⟨bf, 0, none⟩ (.int .i64 i)).setCell ⟨bf, 1, none⟩ (.slice (some ⟨g2, 0, none⟩) s xc)) bf i (some ⟨g2, 0, none⟩) s xc) := mkHid ⟨⟨by simp [go_sem, *], by simp [go_sem, *]⟩, by simp [go_sem, *], by simp [go_sem, *]⟩
            have Z4 := mkHid (((Z3.out.below hb7).grown gA (some_ne (by show w.heap.size ≠ bf; omega))).grown gB (some_ne (by show w.heap.size ≠ bf; omega)))
            have M4 := mkHid ((xo'.grown gA (fun q' hq' => some_ne (by have e : g2 = q' := Option.some.inj hq'; show bf ≠ q'; omega))).grown gB (fun q' hq' => some_ne (by have e : g2 = q' := Option.some.inj hq'; show bf ≠ q'; omega)))
            have C4 := mkHid (((C3.out.below hb7).set (p := ⟨bf, 0, none⟩) (by show cb < bf; omega) (.int .i64 i)).set (p := ⟨bf, 1, none⟩) (by show cb < bf; omega) (.slice (some ⟨g2, 0, none⟩) s xc))
            have G4 := mkHid (grown_new (p := ⟨bf, 1, none⟩) (grown_new (p := ⟨bf, 0, none⟩) (grown_trans G3.out (grown_of_below hb7 (some cb))) (by show w.heap.size ≤ bf; omega) (.int .i64 i)) (by show w.heap.size ≤ bf; omega) (.slice (some ⟨g2, 0, none⟩) s xc))
            have hg2b : g2 ≠ bf ∧ w.heap.size < g2 ∧ bf < g2 := by omega
            clear f0 f1 f2 f3 xo xo' gA gB hb7 C3 G3 Z3 F3 M3
            obtain ⟨w8, hw8⟩ : ∃ w8, (w7.setCell ⟨bf, 0, none⟩ (.int .i64 i)).setCell ⟨bf, 1, none⟩ (.slice (some ⟨g2, 0, none⟩) s xc) = w8 := ⟨_, rfl⟩
            rw [hw8] at F4 Z4 M4 C4 G4
            have HW8 := mkHid hw8
            clear hw8
            go_wp2_with fail
            rw [HW8.out]
            clear HW8
            refine (pick_any 24 cb n cap (bud + 40) a _ (by omega) (C4.out.less (bud' := bud + 40 + 1) (by omega))).mono ?_
            rintro e wt ⟨r, rfl, ra, rb, hC, hG⟩
            have C5 := mkHid hC
            have G5 := mkHid (grown_trans G4.out hG)
            have Z5 := mkHid (Z4.out.grown hG (some_ne (by omega)))
            have F5 := mkHid (F4.out.grown hG (some_ne (by omega)))
            have M5 := mkHid (M4.out.grown hG (fun q hq => some_ne (by have := M4.out.lt hq; omega)))
            clear hC hG C4 G4 Z4 F4 M4
            obtain ⟨⟨f0, f1⟩, f2, f3⟩ := F5.out
            have lM := M5.out.lt (q := g2) rfl
            have lF := F5.out.lt
            have hLs : (mk i (clo i (tab i (mk i T)))).length = s := by have := M5.out.len; omega
            by_cases h0 : r = 0
            · subst h0
              have D1 := mkHid ((C5.out.less (bud' := bud + 10 + 2 + 1) (by omega)).below (Below.refl _ _).drew)
              have D2 := mkHid (M5.out.below (Below.refl _ _).drew)
              have D4 := mkHid (Z5.out.below (Below.refl _ _).drew)
              have D5 := mkHid (F5.out.below (Below.refl _ _).drew)
              have D6 := mkHid (grown_trans G5.out (grown_of_below (Below.refl _ _).drew (some cb)))
              clear f0 f2 f3 C5 M5 Z5 F5 G5
              go_wp2_with fail
              go_region_held3 (fun v => v.cell? ⟨bf, 1, none⟩ = some (.slice (some ⟨g2, 0, none⟩) s xc))
                (first | exact f1 | exact S7 | exact S8 | exact S9 _)
                (first | (go_at_call 72; refine (pick_any (s : Int) cb n cap (bud + 10 + 2) a _ (by omega) D1.out).mono ?_; rintro e w7 ⟨r3, rfl, r3a, r3b, hC7, hG7⟩; have S7 := hG7.cell (a := ⟨bf, 1, none⟩) f1 (some_ne (by show bf ≠ cb; omega)); obtain ⟨k, rfl⟩ : ∃ k : Nat, r3 = k := ⟨r3.toNat, by omega⟩; have hk1 : (k : Int) < (s : Int) := by omega) | (go_at_call 79; refine (number_any cb n cap (bud + 10) a _ hC7).mono ?_; rintro e w8 ⟨r4, rfl, r4a, r4b, hC8, hG8⟩; have S8 := hG8.cell (a := ⟨bf, 1, none⟩) S7 (some_ne (by show bf ≠ cb; omega)); have M8 := (D2.out.grown hG7 (fun q' hq' => some_ne (by have e : g2 = q' := Option.some.inj hq'; omega))).grown hG8 (fun q' hq' => some_ne (by have e : g2 = q' := Option.some.inj hq'; omega)); have co7 := M8.cell (p := k) (by omega); have fo7 := M8.free k; have S9 := fun u => (World.cell?_setCell_far w8 ⟨g2, k, none⟩ ⟨bf, 1, none⟩ u (by show g2 ≠ bf; omega)).trans S8))
              have hg := grown_setCell w8 ⟨g2, k, none⟩ (.int .i64 r4)
              have M99 := mkHid (M8.stored k r4).1
              have Z99 := mkHid (((D4.out.grown hG7 (some_ne (by omega))).grown hG8 (some_ne (by omega))).grown hg (some_ne (by show w.heap.size ≠ g2; omega)))
              have F99 := mkHid (((D5.out.grown hG7 (some_ne (by omega))).grown hG8 (some_ne (by omega))).grown hg (some_ne (by show bf ≠ g2; omega)))
              have C99 := mkHid (hC8.set (p := ⟨g2, k, none⟩) (by show cb < g2; omega) (.int .i64 r4))
              have G99 := mkHid (grown_new (p := ⟨g2, k, none⟩) (grown_trans (grown_trans D6.out hG7) hG8) (by show w.heap.size ≤ g2; omega) (.int .i64 r4))
              clear hg S7 S8 S9 M8 co7 fo7 hC7 hG7 hC8 hG8 f1
              obtain ⟨⟨f0, f1⟩, f2, f3⟩ := F99.out
              obtain ⟨⟨z0, z1⟩, z2, z3⟩ := Z99.out
              have HLen : Hid (s = ((mk i (clo i (tab i (mk i T)))).set k r4).length) := mkHid (by have := M99.out.len; omega)
              have HCap := mkHid (own_cap M99.out)
              have HO := mkHid (fun u0 u1 => ((M99.out.mono (base' := w.heap.size) (by omega)).grown (grown_setCell _ ⟨w.heap.size, 0, none⟩ u0) (fun q' hq' => some_ne (by have e : g2 = q' := Option.some.inj hq'; show w.heap.size ≠ q'; omega))).grown (grown_setCell _ ⟨w.heap.size, 1, none⟩ u1) (fun q' hq' => some_ne (by have e : g2 = q' := Option.some.inj hq'; show w.heap.size ≠ q'; omega)))
              have HCC := mkHid (fun u0 u1 => ((C99.out.less (bud' := bud) (by omega)).set (p := ⟨w.heap.size, 0, none⟩) hlt u0).set (p := ⟨w.heap.size, 1, none⟩) hlt u1)
              have HGG := mkHid (fun u0 u1 => grown_new (p := ⟨w.heap.size, 1, none⟩) (grown_new (p := ⟨w.heap.size, 0, none⟩) G99.out (Nat.le_refl _) u0) (Nat.le_refl _) u1)
              go_wp2
              refine bodyPost_ret (v := .agg #[.int .i64 i, .slice (some ⟨g2, 0, none⟩) s xc]) (by simp [results, Try.results73, go_sem, z0, z1]) rfl ⟨i, (mk i (clo i (tab i (mk i T)))).set k r4, some ⟨g2, 0, none⟩, xc, by rw [← HLen.out], by omega, by rw [← HLen.out]; exact hsq, HCap.out, ?_, HCC.out _ _, HGG.out _ _⟩
              rw [← HLen.out]; exact HO.out _ _
            have e0 : (r == 0) = false := by simp [h0]
            by_cases h1 : r = 1
            · subst h1
              have C5 := mkHid (C5.out.less (bud' := bud + 10 + 1) (by omega))
              clear f0 f1
              go_wp2_with fail
              refine (pick_any 16 cb n cap (bud + 10) a _ (by omega) C5.out).mono ?_
              rintro e wu ⟨ru, rfl, rua, rub, hC, hG⟩
              have C6 := mkHid hC
              have G6 := mkHid (grown_trans G5.out hG)
              have Z6 := mkHid (Z5.out.grown hG (some_ne (by omega)))
              have F6 := mkHid (F5.out.grown hG (some_ne (by omega)))
              have M6 := mkHid (M5.out.grown hG (fun q hq => some_ne (by have := M5.out.lt hq; omega)))
              clear hC hG C5 G5 Z5 F5 M5
              obtain ⟨⟨f0, f1⟩, f2, f3⟩ := F6.out
              have hg := grown_setCell wu ⟨bf, 0, none⟩ (.int .i64 ru)
              have F99 : Hid (Fq (wu.setCell ⟨bf, 0, none⟩ (.int .i64 ru)) bf ru (some ⟨g2, 0, none⟩) s xc) := mkHid ⟨⟨by simp [go_sem, *], by simp [go_sem, *]⟩, by simp [go_sem, *], by simp [go_sem, *]⟩
              have Z99 := mkHid (Z6.out.grown hg (some_ne (by show w.heap.size ≠ bf; omega)))
              have M99 := mkHid (M6.out.grown hg (fun q' hq' => some_ne (by have e : g2 = q' := Option.some.inj hq'; show bf ≠ q'; omega)))
              have C99 := mkHid (C6.out.set (p := ⟨bf, 0, none⟩) (by show cb < bf; omega) (.int .i64 ru))
              have G99 := mkHid (grown_new (p := ⟨bf, 0, none⟩) G6.out (by show w.heap.size ≤ bf; omega) (.int .i64 ru))
              obtain ⟨⟨f0, f1⟩, f2, f3⟩ := F99.out
              obtain ⟨⟨z0, z1⟩, z2, z3⟩ := Z99.out
              have HLen : Hid (s = (mk i (clo i (tab i (mk i T)))).length) := mkHid (by have := M99.out.len; omega)
              have HCap := mkHid (own_cap M99.out)
              have HO := mkHid (fun u0 u1 => ((M99.out.mono (base' := w.heap.size) (by omega)).grown (grown_setCell _ ⟨w.heap.size, 0, none⟩ u0) (fun q' hq' => some_ne (by have e : g2 = q' := Option.some.inj hq'; show w.heap.size ≠ q'; omega))).grown (grown_setCell _ ⟨w.heap.size, 1, none⟩ u1) (fun q' hq' => some_ne (by have e : g2 = q' := Option.some.inj hq'; show w.heap.size ≠ q'; omega)))
              have HCC := mkHid (fun u0 u1 => ((C99.out.less (bud' := bud) (by omega)).set (p := ⟨w.heap.size, 0, none⟩) hlt u0).set (p := ⟨w.heap.size, 1, none⟩) hlt u1)
              have HGG := mkHid (fun u0 u1 => grown_new (p := ⟨w.heap.size, 1, none⟩) (grown_new (p := ⟨w.heap.size, 0, none⟩) G99.out (Nat.le_refl _) u0) (Nat.le_refl _) u1)
              go_wp2
              refine bodyPost_ret (v := .agg #[.int .i64 ru, .slice (some ⟨g2, 0, none⟩) s xc]) (by simp [results, Try.results73, go_sem, z0, z1]) rfl ⟨ru, mk i (clo i (tab i (mk i T))), some ⟨g2, 0, none⟩, xc, by rw [← HLen.out], by omega, by rw [← HLen.out]; exact hsq, HCap.out, ?_, HCC.out _ _, HGG.out _ _⟩
              rw [← HLen.out]; exact HO.out _ _
            have e1 : (r == 1) = false := by simp [h1]
            by_cases h2 : r = 2
            · subst h2
              obtain ⟨⟨z0, z1⟩, z2, z3⟩ := Z5.out
              have HCC := mkHid (fun u0 u1 => ((C5.out.less (bud' := bud) (by omega)).set (p := ⟨w.heap.size, 0, none⟩) hlt u0).set (p := ⟨w.heap.size, 1, none⟩) hlt u1)
              have HGG := mkHid (fun u0 u1 => grown_new (p := ⟨w.heap.size, 1, none⟩) (grown_new (p := ⟨w.heap.size, 0, none⟩) G5.out (Nat.le_refl _) u0) (Nat.le_refl _) u1)
              go_wp2
              exact bodyPost_ret (v := .agg #[.int .i64 0, .slice none 0 0]) (by simp [results, Try.results73, go_sem, z0, z1]) rfl ⟨0, [], none, 0, rfl, by omega, by simp, by simp, OwnI.nil _ _, HCC.out _ _, HGG.out _ _⟩
            have e2 : (r == 2) = false := by simp [h2]
            by_cases h3 : r = 3
            · subst h3
              by_cases hi1 : 1 < i
              · have hi1' : (1 : Int) < (i : Int) := by omega
                have his : i < s := by have h9 : i * 1 < i * i := Nat.mul_lt_mul_of_pos_left hi1 (by omega); have h8 := HS.out; omega
                have his' : (i : Int) < (s : Int) := by omega
                have h1s : (1 : Int) < (s : Int) := by omega
                have co1 := M5.out.cell (p := 1) (by omega)
                have fo1 := M5.out.free 1
                have coi := M5.out.cell (p := i) (by omega)
                have foi := M5.out.free i
                have hg1 := grown_setCell wt ⟨g2, 1, none⟩ (.int .i64 (-2))
                have hg2 := grown_setCell (wt.setCell ⟨g2, 1, none⟩ (.int .i64 (-2))) ⟨g2, i, none⟩ (.int .i64 1)
                have M99 := mkHid ((M5.out.stored 1 (-2)).1.stored i 1).1
                have Z99 := mkHid ((Z5.out.grown hg1 (some_ne (by show w.heap.size ≠ g2; omega))).grown hg2 (some_ne (by show w.heap.size ≠ g2; omega)))
                have F99 := mkHid ((F5.out.grown hg1 (some_ne (by show bf ≠ g2; omega))).grown hg2 (some_ne (by show bf ≠ g2; omega)))
                have C99 := mkHid ((C5.out.set (p := ⟨g2, 1, none⟩) (by show cb < g2; omega) (.int .i64 (-2))).set (p := ⟨g2, i, none⟩) (by show cb < g2; omega) (.int .i64 1))
                have G99 := mkHid (grown_new (p := ⟨g2, i, none⟩) (grown_new (p := ⟨g2, 1, none⟩) G5.out (by show w.heap.size ≤ g2; omega) (.int .i64 (-2))) (by show w.heap.size ≤ g2; omega) (.int .i64 1))
                have hgb : g2 ≠ bf := by omega
                have hgb2 : bf ≠ g2 := by omega
                obtain ⟨⟨f0, f1⟩, f2, f3⟩ := F99.out
                obtain ⟨⟨z0, z1⟩, z2, z3⟩ := Z99.out
                have HLen : Hid (s = (((mk i (clo i (tab i (mk i T)))).set 1 (-2)).set i 1).length) := mkHid (by have := M99.out.len; omega)
                have HCap := mkHid (own_cap M99.out)
                have HO := mkHid (fun u0 u1 => ((M99.out.mono (base' := w.heap.size) (by omega)).grown (grown_setCell _ ⟨w.heap.size, 0, none⟩ u0) (fun q' hq' => some_ne (by have e : g2 = q' := Option.some.inj hq'; show w.heap.size ≠ q'; omega))).grown (grown_setCell _ ⟨w.heap.size, 1, none⟩ u1) (fun q' hq' => some_ne (by have e : g2 = q' := Option.some.inj hq'; show w.heap.size ≠ q'; omega)))
                have HCC := mkHid (fun u0 u1 => ((C99.out.less (bud' := bud) (by omega)).set (p := ⟨w.heap.size, 0, none⟩) hlt u0).set (p := ⟨w.heap.size, 1, none⟩) hlt u1)
                have HGG := mkHid (fun u0 u1 => grown_new (p := ⟨w.heap.size, 1, none⟩) (grown_new (p := ⟨w.heap.size, 0, none⟩) G99.out (Nat.le_refl _) u0) (Nat.le_refl _) u1)
                go_wp2
                refine bodyPost_ret (v := .agg #[.int .i64 i, .slice (some ⟨g2, 0, none⟩) s xc]) (by simp [results, Try.results73, go_sem, z0, z1]) rfl ⟨i, ((mk i (clo i (tab i (mk i T)))).set 1 (-2)).set i 1, some ⟨g2, 0, none⟩, xc, by rw [← HLen.out], by omega, by rw [← HLen.out]; exact hsq, HCap.out, ?_, HCC.out _ _, HGG.out _ _⟩
                rw [← HLen.out]; exact HO.out _ _
              · have hi1' : ¬ (1 : Int) < (i : Int) := by omega
                obtain ⟨⟨f0, f1⟩, f2, f3⟩ := F5.out
                obtain ⟨⟨z0, z1⟩, z2, z3⟩ := Z5.out
                have HLen : Hid (s = (mk i (clo i (tab i (mk i T)))).length) := mkHid (by have := M5.out.len; omega)
                have HCap := mkHid (own_cap M5.out)
                have HO := mkHid (fun u0 u1 => ((M5.out.mono (base' := w.heap.size) (by omega)).grown (grown_setCell _ ⟨w.heap.size, 0, none⟩ u0) (fun q' hq' => some_ne (by have e : g2 = q' := Option.some.inj hq'; show w.heap.size ≠ q'; omega))).grown (grown_setCell _ ⟨w.heap.size, 1, none⟩ u1) (fun q' hq' => some_ne (by have e : g2 = q' := Option.some.inj hq'; show w.heap.size ≠ q'; omega)))
                have HCC := mkHid (fun u0 u1 => ((C5.out.less (bud' := bud) (by omega)).set (p := ⟨w.heap.size, 0, none⟩) hlt u0).set (p := ⟨w.heap.size, 1, none⟩) hlt u1)
                have HGG := mkHid (fun u0 u1 => grown_new (p := ⟨w.heap.size, 1, none⟩) (grown_new (p := ⟨w.heap.size, 0, none⟩) G5.out (Nat.le_refl _) u0) (Nat.le_refl _) u1)
                go_wp2
                refine bodyPost_ret (v := .agg #[.int .i64 i, .slice (some ⟨g2, 0, none⟩) s xc]) (by simp [results, Try.results73, go_sem, z0, z1]) rfl ⟨i, mk i (clo i (tab i (mk i T))), some ⟨g2, 0, none⟩, xc, by rw [← HLen.out], by omega, by rw [← HLen.out]; exact hsq, HCap.out, ?_, HCC.out _ _, HGG.out _ _⟩
                rw [← HLen.out]; exact HO.out _ _
            have e3 : (r == 3) = false := by simp [h3]
            clear h0 h1 h2 h3
            obtain ⟨⟨f0, f1⟩, f2, f3⟩ := F5.out
            obtain ⟨⟨z0, z1⟩, z2, z3⟩ := Z5.out
            have HLen : Hid (s = (mk i (clo i (tab i (mk i T)))).length) := mkHid (by have := M5.out.len; omega)
            have HCap := mkHid (own_cap M5.out)
            have HO := mkHid (fun u0 u1 => ((M5.out.mono (base' := w.heap.size) (by omega)).grown (grown_setCell _ ⟨w.heap.size, 0, none⟩ u0) (fun q' hq' => some_ne (by have e : g2 = q' := Option.some.inj hq'; show w.heap.size ≠ q'; omega))).grown (grown_setCell _ ⟨w.heap.size, 1, none⟩ u1) (fun q' hq' => some_ne (by have e : g2 = q' := Option.some.inj hq'; show w.heap.size ≠ q'; omega)))
            have HCC := mkHid (fun u0 u1 => ((C5.out.less (bud' := bud) (by omega)).set (p := ⟨w.heap.size, 0, none⟩) hlt u0).set (p := ⟨w.heap.size, 1, none⟩) hlt u1)
            have HGG := mkHid (fun u0 u1 => grown_new (p := ⟨w.heap.size, 1, none⟩) (grown_new (p := ⟨w.heap.size, 0, none⟩) G5.out (Nat.le_refl _) u0) (Nat.le_refl _) u1)
            go_wp2
            refine bodyPost_ret (v := .agg #[.int .i64 i, .slice (some ⟨g2, 0, none⟩) s xc]) (by simp [results, Try.results73, go_sem, z0, z1]) rfl ⟨i, mk i (clo i (tab i (mk i T))), some ⟨g2, 0, none⟩, xc, by rw [← HLen.out], by omega, by rw [← HLen.out]; exact hsq, HCap.out, ?_, HCC.out _ _, HGG.out _ _⟩
            rw [← HLen.out]; exact HO.out _ _
        | succ gh =>
          have C2 := mkHid (C2.out.less (bud' := bud + 50 + 3 * gh + 1 + 1 + 1) (by omega))
          have hk0 : (0 : Int) < ((gh + 1 : Nat) : Int) := by omega
          have hks : IntKind.i64.wrap (((gh + 1 : Nat) : Int) - 1) = (gh : Int) := by rw [show ((gh + 1 : Nat) : Int) - 1 = (gh : Int) by omega]; exact IntWalk.i64_in _ (by omega)
          go_wp2_with fail
          refine (pick_any (i : Int) cb n cap (bud + 50 + 3 * gh + 1 + 1) a _ (by omega) C2.out).mono ?_
          rintro e w5 ⟨r, rfl, ra, rb, hC, hG⟩
          have C3 := mkHid hC
          have G3 := mkHid (grown_trans G2.out hG)
          have Z3 := mkHid (Z2.out.grown hG (some_ne (by omega)))
          have F3 := mkHid (F2.out.grown hG (some_ne (by omega)))
          have M3 := mkHid (M2.out.grown hG (fun q hq => some_ne (by have := M2.out.lt hq; omega)))
          have V3 := mkHid (V2.out.grown hG (fun q hq => some_ne (by have := V2.out.lt hq; omega)))
          clear hC hG C2 G2 Z2 F2 M2 V2
          obtain ⟨p, rfl⟩ : ∃ p : Nat, r = p := ⟨r.toNat, by omega⟩
          go_wp2_with fail
          refine (pick_any (i : Int) cb n cap (bud + 50 + 3 * gh + 1) a _ (by omega) C3.out).mono ?_
          rintro e w6 ⟨r', rfl, ra', rb', hC, hG⟩
          have C4 := mkHid hC
          have G4 := mkHid (grown_trans G3.out hG)
          have Z4 := mkHid (Z3.out.grown hG (some_ne (by omega)))
          have F4 := mkHid (F3.out.grown hG (some_ne (by omega)))
          have M4 := mkHid (M3.out.grown hG (fun q hq => some_ne (by have := M3.out.lt hq; omega)))
          have V4 := mkHid (V3.out.grown hG (fun q hq => some_ne (by have := V3.out.lt hq; omega)))
          clear hC hG C3 G3 Z3 F3 M3 V3
          obtain ⟨q, rfl⟩ : ∃ q : Nat, r' = q := ⟨r'.toNat, by omega⟩
          have hp : p < i := by omega
          have hq : q < i := by omega
          by_cases hpq : p = q
          · have hne : ((p : Int) != (q : Int)) = false := by simp [hpq]
            have C9 := mkHid (C4.out.less (bud' := bud + 50 + 3 * gh) (by omega))
            clear hpq
            go_wp2
            go_roundg gh
            case measure => omega
            case rel => exact ⟨T, by first | rfl | rw [hks] | go_num, by omega, HFI.out, HSA.out, M4.out, V4.out, C9.out, G4.out, Z4.out, F4.out⟩
          · have hne : ((p : Int) != (q : Int)) = true := by simp; omega
            have f1 := F4.out.1.2
            have v1 := V4.out.cell (p := p) (by have := HVL.out; omega)
            have v2 := V4.out.cell (p := q) (by have := HVL.out; omega)
            have b1 := VB.out p hp
            have b2 := VB.out q hq
            have hks2 : p * i + q < s := by rw [← HS.out]; exact idx_lt hp hq
            have hm1 : IntKind.i64.wrap ((p : Int) * (i : Int)) = ((p * i : Nat) : Int) := by rw [Int.natCast_mul]; refine IntWalk.i64_in _ ?_; rw [← Int.natCast_mul]; omega
            have hm2 : IntKind.i64.wrap (((p * i : Nat) : Int) + (q : Int)) = ((p * i + q : Nat) : Int) := by rw [Int.natCast_add]; refine IntWalk.i64_in _ ?_; omega
            have HT : Hid (∀ r3 : Int, 0 ≤ r3 → r3 ≤ 3 → Fine i (fun x y => if x = p ∧ y = q then vl.getD p 0 - vl.getD q 0 + r3 else T x y) ∧ (∀ x y, x < i → y < i → vl.getD x 0 - vl.getD y 0 ≤ (fun x y => if x = p ∧ y = q then vl.getD p 0 - vl.getD q 0 + r3 else T x y) x y) ∧ (mk i T).set (p * i + q) (vl.getD p 0 - vl.getD q 0 + r3) = mk i (fun x y => if x = p ∧ y = q then vl.getD p 0 - vl.getD q 0 + r3 else T x y)) := mkHid fun r3 h3 h4 => by
              refine ⟨fun x y hx hy => ?_, fun x y hx hy => ?_, mk_set T hp hq _⟩
              · show -2000000 ≤ (if x = p ∧ y = q then vl.getD p 0 - vl.getD q 0 + r3 else T x y) ∧ (if x = p ∧ y = q then vl.getD p 0 - vl.getD q 0 + r3 else T x y) ≤ capT x y ∧ (x = y → (if x = p ∧ y = q then vl.getD p 0 - vl.getD q 0 + r3 else T x y) = 0)
                by_cases h : x = p ∧ y = q
                · rw [if_pos h]
                  obtain ⟨rfl, rfl⟩ := h
                  have : 1000000 ≤ capT x y := by unfold capT; rw [if_neg hpq]; split <;> omega
                  exact ⟨by omega, by omega, fun e => absurd e hpq⟩
                · rw [if_neg h]; exact HFI.out x y hx hy
              · show _ ≤ (if x = p ∧ y = q then vl.getD p 0 - vl.getD q 0 + r3 else T x y)
                by_cases h : x = p ∧ y = q
                · rw [if_pos h]; obtain ⟨rfl, rfl⟩ := h; omega
                · rw [if_neg h]; exact HSA.out x y hx hy
            obtain ⟨x1, hx1⟩ : ∃ x, vl.getD p 0 = x := ⟨_, rfl⟩
            obtain ⟨x2, hx2⟩ : ∃ x, vl.getD q 0 = x := ⟨_, rfl⟩
            rw [hx1] at v1 b1 HT
            rw [hx2] at v2 b2 HT
            obtain ⟨k, hk⟩ : ∃ k, p * i + q = k := ⟨_, rfl⟩
            rw [hk] at hm2 hks2 HT
            obtain ⟨k', hk'⟩ : ∃ k', p * i = k' := ⟨_, rfl⟩
            rw [hk'] at hm1 hm2
            have hks3 : (k : Int) < (s : Int) := by omega
            have hpi : (p : Int) < (i : Int) := by omega
            have hqi : (q : Int) < (i : Int) := by omega
            have hwa : IntKind.i64.wrap (x1 - x2) = x1 - x2 := IntWalk.i64_in _ (by omega)
            have lgv4 := V4.out.lt (q := gv) rfl
            have lF4 := F4.out.lt
            have hkl : k < (mk i T).length := by rw [mk_len, HS.out]; exact hks2
            have D1 := mkHid (C4.out.below (Below.refl _ _).drew)
            have D2 := mkHid (M4.out.below (Below.refl _ _).drew)
            have D3 := mkHid (V4.out.below (Below.refl _ _).drew)
            have D4 := mkHid (Z4.out.below (Below.refl _ _).drew)
            have D5 := mkHid (F4.out.below (Below.refl _ _).drew)
            have D6 := mkHid (grown_trans G4.out (grown_of_below (Below.refl _ _).drew (some cb)))
            clear hx1 hx2 hk hk' hpq C4 M4 V4 Z4 F4 G4
            go_wp2_with fail
            go_region_held3 (fun v => v.cell? ⟨bf, 1, none⟩ = some (.slice (some ⟨gm, 0, none⟩) s sc) ∧ v.cell? ⟨gv, p, none⟩ = some (.int .i64 x1) ∧ v.cell? ⟨gv, q, none⟩ = some (.int .i64 x2))
              (first | exact ⟨f1, v1, v2⟩ | exact S7 | exact S8 _)
              (first | (go_at_call 72; refine (pick_any 4 cb n cap (bud + 50 + 3 * gh) a _ (by omega) D1.out).mono ?_; rintro e w7 ⟨r3, rfl, r3a, r3b, hC7, hG7⟩; have S7 := And.intro (hG7.cell (a := ⟨bf, 1, none⟩) f1 (some_ne (by show bf ≠ cb; omega))) (And.intro (hG7.cell (a := ⟨gv, p, none⟩) v1 (some_ne (by show gv ≠ cb; omega))) (hG7.cell (a := ⟨gv, q, none⟩) v2 (some_ne (by show gv ≠ cb; omega)))); have M7 := D2.out.grown hG7 (fun q' hq' => some_ne (by have e : gm = q' := Option.some.inj hq'; omega)); have co7 := M7.cell hkl; have fo7 := M7.free k; have hwb : IntKind.i64.wrap (x1 - x2 + r3) = x1 - x2 + r3 := IntWalk.i64_in _ (by omega); have S8 := fun u => And.intro ((World.cell?_setCell_far w7 ⟨gm, k, none⟩ ⟨bf, 1, none⟩ u (by show gm ≠ bf; omega)).trans S7.1) (And.intro ((World.cell?_setCell_far w7 ⟨gm, k, none⟩ ⟨gv, p, none⟩ u (by show gm ≠ gv; omega)).trans S7.2.1) ((World.cell?_setCell_far w7 ⟨gm, k, none⟩ ⟨gv, q, none⟩ u (by show gm ≠ gv; omega)).trans S7.2.2))))
            obtain ⟨t1, t2, t3⟩ := HT.out r3 (by omega) (by omega)
            have hg := grown_setCell w7 ⟨gm, k, none⟩ (.int .i64 (x1 - x2 + r3))
            have K1 := (M7.stored k (x1 - x2 + r3)).1
            rw [t3] at K1
            have K1 := mkHid K1
            have K2 := mkHid ((D3.out.grown hG7 (fun q' hq' => some_ne (by have e : gv = q' := Option.some.inj hq'; omega))).grown hg (fun q' hq' => some_ne (by have e : gv = q' := Option.some.inj hq'; show gm ≠ q'; omega)))
            have K3 := mkHid (hC7.set (p := ⟨gm, k, none⟩) (by show cb < gm; omega) (.int .i64 (x1 - x2 + r3)))
            have K4 := mkHid (grown_new (p := ⟨gm, k, none⟩) (grown_trans D6.out hG7) (by show w.heap.size ≤ gm; omega) (.int .i64 (x1 - x2 + r3)))
            have K5 := mkHid ((D4.out.grown hG7 (some_ne (by omega))).grown hg (some_ne (by show w.heap.size ≠ gm; omega)))
            have K6 := mkHid ((D5.out.grown hG7 (some_ne (by omega))).grown hg (some_ne (by show bf ≠ gm; omega)))
            have T1 := mkHid t1
            have T2 := mkHid t2
            clear t1 t2 t3 hg S7 S8 M7 co7 fo7 hC7 hG7 f1 v1 v2 D1 D2 D3 D4 D5 D6
            go_wp2
            go_roundg gh
            case measure => omega
            case rel => exact ⟨_, by first | rfl | rw [hks] | go_num, by omega, T1.out, T2.out, K1.out, K2.out, K3.out, K4.out, K5.out, K6.out⟩
    | succ gh =>
      have hle : (i : Int) < (sz : Int) := by omega
      go_wp2_with fail
      refine (pick_any 24 cb n cap (bud + 180 + gh) a _ (by omega) C0.out).mono ?_
      rintro e w4 ⟨r, rfl, ra, rb, hC, hG⟩
      have C1 := mkHid hC
      have G1 := mkHid (grown_trans G0.out hG)
      have Z1 := mkHid (Z0.out.grown hG (some_ne (by omega)))
      have F1 := mkHid (F0.out.grown hG (some_ne (by omega)))
      have M1 := mkHid (M0.out.grown hG (fun q hq => some_ne (by have := M0.out.lt hq; omega)))
      have V1 := mkHid (V0.out.grown hG (fun q hq => some_ne (by have := V0.out.lt hq; omega)))
      clear hC hG C0 G0 Z0 F0 M0 V0
      have hwr : IntKind.i64.wrap (r - 6) = r - 6 := IntWalk.i64_in _ (by omega)
      have HOWN : Hid ((w4.alloc (.cells #[.int .i64 (r - 6)] 3)).ownsRow w2.heap.size 3 1 (.slice (some ⟨gv, 0, none⟩) i vc) i (ints vl)) := mkHid (World.ownsRow.alloc (by have := V1.out; unfold OwnI at this; rwa [HVL.out] at this) _)
      have lv4 := V1.out.lt (q := gv) rfl
      have HB2 : Hid (w2.heap.size ≤ (w4.alloc (.cells #[.int .i64 (r - 6)] 3)).heap.size) := mkHid (by simp; omega)
      go_wp2_with (at_builtin; refine wpList_append_lies _ rfl _ _ 24 rfl w2.heap.size 3 i0 (.int .i64 0) 1 8 Try.underlying24 HI.out.1 HI.out.2.1 HI.out.2.2.1 HI.out.2.2.2 rfl (by decide) (.slice (some ⟨gv, 0, none⟩) i vc) i (ints vl) rfl HOWN.out ⟨w4.heap.size, 0, none⟩ 1 1 [.int .i64 (r - 6)] rfl (by rfl) (World.news_of_block (heap_alloc_last w4 _)) (fun u hu => by simp at hu; rcases hu with rfl; rfl) (by decide) (by unfold maxLen; omega) (by omega) HB2.out (w4.heap.size + 1) (by simp) ?_; intro g' cap' w5 hown hgrow hat hlt4)
      have hgr : (w4.alloc (.cells #[.int .i64 (r - 6)] 3)).grownBy w5 (some gv) := hgrow
      have A4 := below_alloc w4 (.cells #[.int .i64 (r - 6)] 3)
      have C5 := mkHid (((C1.out.below A4).far hgr (by omega)).less (bud' := bud + 180 + gh) (by omega))
      have G5 := mkHid (grown_over (grown_alloc G1.out (.cells #[.int .i64 (r - 6)] 3)) hgr (by omega))
      have Z5 := mkHid ((Z1.out.below A4).grown hgr (some_ne (by omega)))
      have F5 := mkHid ((F1.out.below A4).grown hgr (some_ne (by omega)))
      have M5 := mkHid ((M1.out.below A4).grown hgr (fun q hq => some_ne (by have e : gm = q := Option.some.inj hq; omega)))
      have V5 : Hid (OwnI w5 w2.heap.size (.slice (some ⟨g', 0, none⟩) (i + 1) cap') (vl ++ [r - 6])) := mkHid (by
        unfold OwnI
        rw [← ints_snoc, List.length_append, HVL.out]
        exact hown)
      have HB5 : Hid (∀ x ∈ vl ++ [r - 6], -6 ≤ x ∧ x ≤ 17) := mkHid fun x hx => by
        rcases List.mem_append.1 hx with h | h
        · exact HVB.out x h
        · have e : x = r - 6 := by simpa using h
          omega
      clear hown hgrow hat hlt4 hgr A4 C1 G1 Z1 F1 M1 V1
      go_wp2
      go_roundg gh
      case measure => omega
      case rel => exact ⟨i + 1, vl ++ [r - 6], some ⟨g', 0, none⟩, cap', by omega, by omega, by simp [HVL.out], HB5.out, by go_num, rfl, V5.out, C5.out, G5.out, Z5.out, F5.out, M5.out⟩
end Go.Proofs.Ytgclngofigffdaa
