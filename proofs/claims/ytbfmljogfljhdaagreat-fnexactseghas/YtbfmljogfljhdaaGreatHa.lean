/-
  CONTRACT of the program's (*link).has.
-/
import Derived.Test.YtbfmljogfljhdaaGreatCh
namespace Go.Proofs.YtbfmljogfljhdaaGreat
open Go.RowKit

abbrev CC := Bool × Int
def eC : El CC := ⟨fun p => [.bool p.1, .int .i64 p.2], 2, by omega, fun _ => rfl⟩
theorem get_c {w : World} {b o : Nat} {l : List CC} (h : ∀ (i : Nat) (x : CC), l[i]? = some x → ∀ (j : Nat) (v : Value), (eC.enc x)[j]? = some v → w.cell? ⟨b, o + i * eC.k + j, none⟩ = some v) {i : Nat} {x : CC} (hx : l[i]? = some x) :
    w.cell? ⟨b, o + i * 2, none⟩ = some (.bool x.1) ∧ w.cell? ⟨b, o + i * 2 + 1, none⟩ = some (.int .i64 x.2) := ⟨h i x hx 0 _ rfl, h i x hx 1 _ rfl⟩
def hasC (v : VV) (c : CC) : Bool := hasV v.1 v.2.1 v.2.2 c.1 c.2
structure SegP (l : List Int) (k k' : Lk) (cs : List CC) (d : Nat) : Prop where
  num : numB l k'.b - numB l k.b = d
  le : d ≤ cs.length
  may : d = 0 → k.m = true
  each : ∀ c, c ∈ cs.take d → hasC k.v c = true
def HasL (l : List Int) : List Lk → List CC → Prop
  | [], _ => False
  | [k], _ => OneP l k.b
  | k :: k' :: r, cs => OneP l k.b ∧ ∃ d, SegP l k k' cs d ∧ HasL l (k' :: r) (cs.drop d)
structure GoodL (l : List Int) (k : Lk) : Prop where
  ne : k.b ≠ []
  len : k.b.length ≤ 1048576
  ins : ∀ q, q ∈ k.b → InS l.length q
theorem At.drop {α : Type} {E : El α} {w : World} {b o d : Nat} {cs : List α} (h : At E w (some ⟨b, o, none⟩) cs) : At E w (some ⟨b, o + d * E.k, none⟩) (cs.drop d) := by
  rcases h with rfl | ⟨b', o', e, h⟩
  · exact .inl (by simp)
  · cases e
    refine .inr ⟨b, o + d * E.k, rfl, fun i x hx j v hv => ?_⟩
    rw [List.getElem?_drop] at hx
    have := h (d + i) x hx j v hv
    rw [Nat.add_mul, ← Nat.add_assoc] at this
    exact this
set_option maxRecDepth 100000 in
set_option maxHeartbeats 6400000 in
theorem has_any (l : List Int) (a : Option Addr) (c : Nat) (hv : VP l) : ∀ (ks : List Lk) (X : Nat) (cs : List CC) (ac : Option Addr) (cc : Nat) (w : World), (∀ k, k ∈ ks → GoodL l k) → cs.length ≤ cc → cc ≤ maxLen → At eI w a l → At eC w ac cs → Chain w X ks →
    Calls Tryz.prog 38 #[.pointer (some ⟨X, 0, none⟩), .slice a l.length c, .slice ac cs.length cc] w fun e w' => Tells w w' e (HasL l ks cs)
  | [], X, cs, ac, cc, w, _, _, _, _, _, h => absurd h id
  | [k], X, cs, ac, cc, w, hg, hcc, hcm, hl, hc, hch => by
    have HV := mkHid hv
    have HG := mkHid (hg k (by simp))
    have HK : Hid (LinkAt w X k none) := mkHid hch
    have HL := mkHid hl
    clear hv hg hch hl hc
    go_enter Tryz.func38, Tryz.ntmps38
    go_wp2_with fail
    refine (oneNumber_any l a c X k none _ HV.out HL.out HG.out.ne HG.out.len HG.out.ins HK.out).mono ?_
    rintro e w1 ⟨hb, r, rfl, hr⟩
    have HR := mkHid hr
    have HB := mkHid hb
    have q6 := (HK.out.below hb).nx
    clear hb hr
    cases hrb : r
    · have HNO : Hid (¬ HasL l [k] cs) := mkHid fun h => by have := HR.out.2 h; rw [hrb] at this; cases this
      subst hrb
      go_wp2
      go_ret
      exact Tells.no HB.out HNO.out
    · have HYES : Hid (HasL l [k] cs) := mkHid (HR.out.1 hrb)
      subst hrb
      go_wp2
      go_ret
      exact Tells.yes HB.out HYES.out
  | k :: k' :: r, X, cs, ac, cc, w, hg, hcc, hcm, hl, hc, hch => by
    have HV := mkHid hv
    have HG := mkHid (hg k (by simp))
    have HG' := mkHid (hg k' (by simp))
    have HGR : Hid (∀ q, q ∈ k' :: r → GoodL l q) := mkHid fun q hq => hg q (by simp [List.mem_cons.1 hq])
    obtain ⟨X', hk, hch'⟩ := hch
    obtain ⟨p', hk'⟩ := hch'.head
    have HK := mkHid hk
    have HK' := mkHid hk'
    have HCH := mkHid hch'
    have HL := mkHid hl
    have HC := mkHid hc
    have IH : Hid (∀ (cs : List CC) (ac : Option Addr) (cc : Nat) (w : World), cs.length ≤ cc → cc ≤ maxLen → At eI w a l → At eC w ac cs → Chain w X' (k' :: r) → Calls Tryz.prog 38 #[.pointer (some ⟨X', 0, none⟩), .slice a l.length c, .slice ac cs.length cc] w fun e w' => Tells w w' e (HasL l (k' :: r) cs)) :=
      mkHid fun cs ac cc w h1 h2 h3 h4 h5 => has_any l a c hv (k' :: r) X' cs ac cc w HGR.out h1 h2 h3 h4 h5
    unfold maxLen at hcm
    clear hv hg hl hc hk hk' hch'
    go_enter Tryz.func38, Tryz.ntmps38
    go_wp2_with fail
    refine (oneNumber_any l a c X k _ _ HV.out HL.out HG.out.ne HG.out.len HG.out.ins HK.out).mono ?_
    rintro e w1 ⟨hb, r1, rfl, hr⟩
    have HR := mkHid hr
    have HB := mkHid hb
    have K1 := mkHid (HK.out.below hb)
    have K1' := mkHid (HK'.out.below hb)
    have L1 := mkHid (HL.out.below hb)
    clear hb hr
    cases hrb : r1
    · have HNO : Hid (¬ HasL l (k :: k' :: r) cs) := mkHid fun h => by have := HR.out.2 h.1; rw [hrb] at this; cases this
      subst hrb
      go_wp2
      go_ret
      exact Tells.no HB.out HNO.out
    have HON := mkHid (HR.out.1 hrb)
    subst hrb
    obtain ⟨n1, hn1⟩ : ∃ z, numB l k.b = z := ⟨_, rfl⟩
    obtain ⟨n2, hn2⟩ : ∃ z, numB l k'.b = z := ⟨_, rfl⟩
    have hb1 := numB_bound HV.out HG.out.ins HG.out.ne
    have hb2 := numB_bound HV.out HG'.out.ins HG'.out.ne
    rw [hn1] at hb1
    rw [hn2] at hb2
    have HN1 := mkHid hn1
    have HN2 := mkHid hn2
    clear hn1 hn2
    have q6 := K1.out.nx
    go_wp2_with fail
    refine (number_any l a c X' k' p' _ HV.out L1.out HG'.out.ne HG'.out.ins K1'.out).mono ?_
    rintro e w2 ⟨rfl, hb⟩
    rw [HN2.out]
    have HB2 := mkHid (below_step HB.out hb)
    have K2 := mkHid (K1.out.below hb)
    have L2 := mkHid (L1.out.below hb)
    clear hb q6 HB K1 K1' L1
    go_wp2_with fail
    refine (number_any l a c X k _ _ HV.out L2.out HG.out.ne HG.out.ins K2.out).mono ?_
    rintro e w3 ⟨rfl, hb⟩
    rw [HN1.out]
    have HB3 := mkHid (below_step HB2.out hb)
    have K3 := mkHid (K2.out.below hb)
    have L3 := mkHid (L2.out.below hb)
    have C3 := mkHid (HC.out.below HB3.out)
    have H3 := mkHid (HCH.out.below HB3.out)
    clear hb HB2 K2 L2
    obtain ⟨d, hd⟩ : ∃ d, n2 - n1 = d := ⟨_, rfl⟩
    have hwd : IntKind.i64.wrap (n2 - n1) = d := by rw [← hd]; exact IntWalk.i64_in _ (by omega)
    have hwd2 : wrap64 (n2 - n1) = d := by rw [← hd]; unfold wrap64; omega
    have HD := mkHid hd
    have hdb : -2002000 ≤ d ∧ d ≤ 2002000 := by omega
    have NO : Hid (∀ (P : Prop), (∀ e : Nat, SegP l k k' cs e → (e : Int) = d → P) → ¬ P → ¬ HasL l (k :: k' :: r) cs) := mkHid fun P h1 h2 h => by
      obtain ⟨_, e, h3, _⟩ := h
      exact h2 (h1 e h3 (by have := h3.num; rw [HN1.out, HN2.out, HD.out] at this; omega))
    clear hd
    by_cases hd0 : d < 0
    · have HNO := mkHid (NO.out False (fun e _ he => by omega) id)
      go_wp2
      go_ret
      exact Tells.no HB3.out HNO.out
    by_cases hd1 : (cs.length : Int) < d
    · have HNO := mkHid (NO.out False (fun e h he => by have := h.le; omega) id)
      go_wp2
      go_ret
      exact Tells.no HB3.out HNO.out
    obtain ⟨dn, hdn⟩ : ∃ dn : Nat, d = (dn : Int) := ⟨d.toNat, by omega⟩
    subst hdn
    have hdl : dn ≤ cs.length := by omega
    have SEG : Hid ((dn = 0 → k.m = true) → (∀ q, q ∈ cs.take dn → hasC k.v q = true) → SegP l k k' cs dn) := mkHid fun h1 h2 => ⟨by rw [HN1.out, HN2.out]; exact HD.out, hdl, h1, h2⟩
    have q5 := K3.out.m
    by_cases hmay : dn = 0 ∧ k.m = false
    · have HNO := mkHid (NO.out False (fun e h he => by have h1 := h.may (by omega); rw [hmay.2] at h1; cases h1) id)
      have hm0 := hmay.2
      have hz : ((dn : Int) == 0) = true := beq_iff_eq.2 (by omega)
      rw [hm0] at q5
      clear hmay hm0
      go_wp2
      go_ret
      exact Tells.no HB3.out HNO.out
    have MAY : Hid (dn = 0 → k.m = true) := mkHid fun h => by cases hm : k.m with | true => rfl | false => exact absurd ⟨h, hm⟩ hmay
    have i0 : (0 : Int) ≤ (dn : Int) := by omega
    have i1 : (dn : Int) ≤ (cc : Int) := by omega
    have e1 : decide (cs.length < dn) = false := decide_eq_false (by omega)
    have e2 : decide ((dn : Int) < 0) = false := decide_eq_false (by omega)
    have e3 : (cs.length < dn) = False := eq_false (by omega)
    clear hmay
    cases hz : ((dn : Int) == 0) with
    | true =>
      have hm1 : k.m = true := MAY.out (by have := beq_iff_eq.1 hz; omega)
      rw [hm1] at q5
      clear hm1
      go_wp2
      clear q5
      go_loopg [52, 9] dn (fun g s52 s9 wr => ∃ (q : Nat), q ≤ dn ∧ s52 = .int .i64 q ∧ dn - q ≤ g ∧ (∀ i (x : CC), i < q → cs[i]? = some x → hasC k.v x = true) ∧ Below w3.heap.size w3 wr)
      case atStart => exact ⟨0, Nat.zero_le _, rfl, by omega, fun i x h => by omega, Below.refl _ _⟩
      case round =>
        obtain ⟨q, hq0, rfl, hgq, hok, hbel⟩ := hrel
        have HOK := mkHid hok
        have HBL := mkHid hbel
        have HB4 := mkHid (below_step HB3.out hbel)
        have K4 := mkHid (K3.out.below hbel)
        have C4 := mkHid (C3.out.below hbel)
        clear hok hbel
        by_cases hlt : q < dn
        · obtain ⟨x, hx⟩ : ∃ x, cs[q]? = some x := ⟨_, List.getElem?_eq_getElem (by omega)⟩
          obtain ⟨b, off, rfl, _, hqc⟩ := C4.out.cons (by omega)
          obtain ⟨c0, c1⟩ := get_c hqc hx
          have HX := mkHid hx
          clear hqc hx
          have j0 : (0 : Int) ≤ (q : Int) := by omega
          have j1 : (q : Int) < (dn : Int) := by omega
          obtain ⟨wa, hwa⟩ : ∃ z : World, wr.alloc (.cells #[.bool x.1, .int .i64 x.2] 71) = z := ⟨_, rfl⟩
          have BA : Hid (Below wr.heap.size wr wa) := mkHid (by rw [← hwa]; exact bl_alloc (Below.refl _ _) _)
          obtain ⟨R, hR⟩ : ∃ z, wr.heap.size = z := ⟨_, rfl⟩
          have t0 : wa.cell? ⟨R, 0, none⟩ = some (.bool x.1) := by rw [← hwa, ← hR]; simp [go_sem]
          have t1 : wa.cell? ⟨R, 1, none⟩ = some (.int .i64 x.2) := by rw [← hwa, ← hR]; simp [go_sem]
          have K5 := K4.out.below BA.out
          have v0 := K5.v0
          have v1 := K5.v1
          have v2 := K5.v2
          have hlk := K5.lt
          have hlr := World.block_lt_of_cell? wa _ t0
          obtain ⟨hh, hhe⟩ : ∃ z, hasV k.v.1 k.v.2.1 k.v.2.2 x.1 x.2 = z := ⟨_, rfl⟩
          have HHE := mkHid hhe
          clear K5
          go_wp2_with fail
          clear hwa hR
          go_region_held3 (fun w' => w'.cell? ⟨X, 2, none⟩ = some (.int .i64 k.v.1) ∧ w'.cell? ⟨X, 3, none⟩ = some (.int .i64 k.v.2.1) ∧ w'.cell? ⟨X, 4, none⟩ = some (.bool k.v.2.2) ∧ w'.cell? ⟨R, 0, none⟩ = some (.bool x.1) ∧ w'.cell? ⟨R, 1, none⟩ = some (.int .i64 x.2)) (first | exact ⟨v0, v1, v2, t0, t1⟩ | exact ⟨(hc _ _ hlk).trans v0, (hc _ _ hlk).trans v1, (hc _ _ hlk).trans v2, (hc _ _ hlr).trans t0, (hc _ _ hlr).trans t1⟩)
            (first | (go_at_call 94; refine (iVhas_any k.v.1 k.v.2.1 k.v.2.2 x.1 x.2 _).mono ?_; rintro e wb ⟨rfl, hb⟩; rw [hhe]; obtain ⟨hc, hf⟩ := bcell hb))
          have HB5 : Hid (Below w3.heap.size w3 wb) := mkHid (below_step (below_step HBL.out BA.out) (bdrew hb))
          clear hb hc hf v0 v1 v2 t0 t1 hhe c0 c1
          cases hhb : hh
          · have HNO := mkHid (NO.out False (fun e h he => by
              have h1 := h.each x (List.mem_iff_getElem?.2 ⟨q, by rw [List.getElem?_take, if_pos (by omega)]; exact HX.out⟩)
              unfold hasC at h1
              rw [HHE.out, hhb] at h1
              cases h1) id)
            subst hhb
            have HB6 := mkHid (below_step HB3.out HB5.out)
            go_wp2
            go_ret
            exact Tells.no HB6.out HNO.out
          · have HNX : Hid (∀ i (y : CC), i < q + 1 → cs[i]? = some y → hasC k.v y = true) := mkHid fun i y hi hy => (by omega : i < q ∨ i = q).elim (fun h => HOK.out i y h hy) (fun h => by subst h; rw [HX.out] at hy; cases hy; unfold hasC; rw [HHE.out, hhb])
            subst hhb
            go_wp2
            go_roundg (dn - (q + 1))
            case measure => omega
            case rel => exact ⟨q + 1, by omega, by go_num, Nat.le_refl _, HNX.out, HB5.out⟩
        · have HSE := mkHid (SEG.out MAY.out fun y hy => by
            obtain ⟨i, hi⟩ := List.mem_iff_getElem?.1 hy
            rw [List.getElem?_take] at hi
            split at hi
            · exact HOK.out i y (by omega) hi
            · cases hi)
          have j1 : ¬ (q : Int) < (dn : Int) := by omega
          have q6 := K4.out.nx
          have hlk := K4.out.lt
          have i2 : (dn : Int) ≤ (cs.length : Int) := by omega
          have HREC : Hid (Calls Tryz.prog 38 #[.pointer (some ⟨X', 0, none⟩), .slice a l.length c, .slice (if cc = dn then ac else Option.map (fun x => x.add (dn * 2)) ac) (cs.length - dn) (cc - dn)] wr.drew fun e w' => Tells wr.drew w' e (HasL l (k' :: r) (cs.drop dn))) := mkHid (by
            have h := IH.out (cs.drop dn) (if cc = dn then ac else Option.map (fun x => x.add (dn * 2)) ac) (cc - dn) wr.drew (by rw [List.length_drop]; omega) (by unfold maxLen; omega) ((L3.out.below HBL.out).below (Below.refl _ _).drew) ?_ ((H3.out.below HBL.out).below (Below.refl _ _).drew)
            · rw [List.length_drop] at h
              exact h
            · by_cases hcd : cc = dn
              · rw [if_pos hcd]
                exact .inl (List.drop_eq_nil_of_le (by omega))
              · rw [if_neg hcd]
                rcases C4.out with h0 | ⟨b, o, h0, h1⟩
                · exact .inl (by rw [h0]; simp)
                · subst h0
                  have h2 : At eC wr (some ⟨b, o, none⟩) cs := .inr ⟨b, o, rfl, h1⟩
                  have h3 := (h2.drop (d := dn)).below (Below.refl _ _).drew
                  simp only [Option.map_some, Addr.add_lit]
                  exact h3)
          obtain ⟨AD, hAD⟩ : ∃ z, (if cc = dn then ac else Option.map (fun x => x.add (dn * 2)) ac) = z := ⟨_, rfl⟩
          rw [hAD] at HREC
          go_wp2_with fail
          go_region_held3 (fun w' => w'.cell? ⟨X, 6, none⟩ = some (.pointer (some ⟨X', 0, none⟩))) (first | exact q6 | exact (hc _ _ hlk).trans q6)
            (first | (go_at_call 38; refine HREC.out.mono ?_; rintro e wb ⟨hb, r2, rfl, hr2⟩; have HR2 := mkHid hr2; clear hr2; obtain ⟨hc, hf⟩ := bcell hb))
          have HB5 := mkHid (below_step HB4.out (bdrew hb))
          clear hb hc hf q6 hAD
          cases hr2b : r2
          · have HNO : Hid (¬ HasL l (k :: k' :: r) cs) := mkHid fun h => by
              obtain ⟨_, e, h3, h4⟩ := h
              have he : e = dn := by have := h3.num; rw [HN1.out, HN2.out, HD.out] at this; omega
              subst he
              have := HR2.out.2 h4
              rw [hr2b] at this
              cases this
            subst hr2b
            go_wp2
            go_ret
            exact Tells.no HB5.out HNO.out
          · have HYES : Hid (HasL l (k :: k' :: r) cs) := mkHid ⟨HON.out, dn, HSE.out, HR2.out.1 hr2b⟩
            subst hr2b
            go_wp2
            go_ret
            exact Tells.yes HB5.out HYES.out
    | false =>
      go_wp2
      clear q5
      go_loopg [52, 9] dn (fun g s52 s9 wr => ∃ (q : Nat), q ≤ dn ∧ s52 = .int .i64 q ∧ dn - q ≤ g ∧ (∀ i (x : CC), i < q → cs[i]? = some x → hasC k.v x = true) ∧ Below w3.heap.size w3 wr)
      case atStart => exact ⟨0, Nat.zero_le _, rfl, by omega, fun i x h => by omega, Below.refl _ _⟩
      case round =>
        obtain ⟨q, hq0, rfl, hgq, hok, hbel⟩ := hrel
        have HOK := mkHid hok
        have HBL := mkHid hbel
        have HB4 := mkHid (below_step HB3.out hbel)
        have K4 := mkHid (K3.out.below hbel)
        have C4 := mkHid (C3.out.below hbel)
        clear hok hbel
        by_cases hlt : q < dn
        · obtain ⟨x, hx⟩ : ∃ x, cs[q]? = some x := ⟨_, List.getElem?_eq_getElem (by omega)⟩
          obtain ⟨b, off, rfl, _, hqc⟩ := C4.out.cons (by omega)
          obtain ⟨c0, c1⟩ := get_c hqc hx
          have HX := mkHid hx
          clear hqc hx
          have j0 : (0 : Int) ≤ (q : Int) := by omega
          have j1 : (q : Int) < (dn : Int) := by omega
          obtain ⟨wa, hwa⟩ : ∃ z : World, wr.alloc (.cells #[.bool x.1, .int .i64 x.2] 71) = z := ⟨_, rfl⟩
          have BA : Hid (Below wr.heap.size wr wa) := mkHid (by rw [← hwa]; exact bl_alloc (Below.refl _ _) _)
          obtain ⟨R, hR⟩ : ∃ z, wr.heap.size = z := ⟨_, rfl⟩
          have t0 : wa.cell? ⟨R, 0, none⟩ = some (.bool x.1) := by rw [← hwa, ← hR]; simp [go_sem]
          have t1 : wa.cell? ⟨R, 1, none⟩ = some (.int .i64 x.2) := by rw [← hwa, ← hR]; simp [go_sem]
          have K5 := K4.out.below BA.out
          have v0 := K5.v0
          have v1 := K5.v1
          have v2 := K5.v2
          have hlk := K5.lt
          have hlr := World.block_lt_of_cell? wa _ t0
          obtain ⟨hh, hhe⟩ : ∃ z, hasV k.v.1 k.v.2.1 k.v.2.2 x.1 x.2 = z := ⟨_, rfl⟩
          have HHE := mkHid hhe
          clear K5
          go_wp2_with fail
          clear hwa hR
          go_region_held3 (fun w' => w'.cell? ⟨X, 2, none⟩ = some (.int .i64 k.v.1) ∧ w'.cell? ⟨X, 3, none⟩ = some (.int .i64 k.v.2.1) ∧ w'.cell? ⟨X, 4, none⟩ = some (.bool k.v.2.2) ∧ w'.cell? ⟨R, 0, none⟩ = some (.bool x.1) ∧ w'.cell? ⟨R, 1, none⟩ = some (.int .i64 x.2)) (first | exact ⟨v0, v1, v2, t0, t1⟩ | exact ⟨(hc _ _ hlk).trans v0, (hc _ _ hlk).trans v1, (hc _ _ hlk).trans v2, (hc _ _ hlr).trans t0, (hc _ _ hlr).trans t1⟩)
            (first | (go_at_call 94; refine (iVhas_any k.v.1 k.v.2.1 k.v.2.2 x.1 x.2 _).mono ?_; rintro e wb ⟨rfl, hb⟩; rw [hhe]; obtain ⟨hc, hf⟩ := bcell hb))
          have HB5 : Hid (Below w3.heap.size w3 wb) := mkHid (below_step (below_step HBL.out BA.out) (bdrew hb))
          clear hb hc hf v0 v1 v2 t0 t1 hhe c0 c1
          cases hhb : hh
          · have HNO := mkHid (NO.out False (fun e h he => by
              have h1 := h.each x (List.mem_iff_getElem?.2 ⟨q, by rw [List.getElem?_take, if_pos (by omega)]; exact HX.out⟩)
              unfold hasC at h1
              rw [HHE.out, hhb] at h1
              cases h1) id)
            subst hhb
            have HB6 := mkHid (below_step HB3.out HB5.out)
            go_wp2
            go_ret
            exact Tells.no HB6.out HNO.out
          · have HNX : Hid (∀ i (y : CC), i < q + 1 → cs[i]? = some y → hasC k.v y = true) := mkHid fun i y hi hy => (by omega : i < q ∨ i = q).elim (fun h => HOK.out i y h hy) (fun h => by subst h; rw [HX.out] at hy; cases hy; unfold hasC; rw [HHE.out, hhb])
            subst hhb
            go_wp2
            go_roundg (dn - (q + 1))
            case measure => omega
            case rel => exact ⟨q + 1, by omega, by go_num, Nat.le_refl _, HNX.out, HB5.out⟩
        · have HSE := mkHid (SEG.out MAY.out fun y hy => by
            obtain ⟨i, hi⟩ := List.mem_iff_getElem?.1 hy
            rw [List.getElem?_take] at hi
            split at hi
            · exact HOK.out i y (by omega) hi
            · cases hi)
          have j1 : ¬ (q : Int) < (dn : Int) := by omega
          have q6 := K4.out.nx
          have hlk := K4.out.lt
          have i2 : (dn : Int) ≤ (cs.length : Int) := by omega
          have HREC : Hid (Calls Tryz.prog 38 #[.pointer (some ⟨X', 0, none⟩), .slice a l.length c, .slice (if cc = dn then ac else Option.map (fun x => x.add (dn * 2)) ac) (cs.length - dn) (cc - dn)] wr.drew fun e w' => Tells wr.drew w' e (HasL l (k' :: r) (cs.drop dn))) := mkHid (by
            have h := IH.out (cs.drop dn) (if cc = dn then ac else Option.map (fun x => x.add (dn * 2)) ac) (cc - dn) wr.drew (by rw [List.length_drop]; omega) (by unfold maxLen; omega) ((L3.out.below HBL.out).below (Below.refl _ _).drew) ?_ ((H3.out.below HBL.out).below (Below.refl _ _).drew)
            · rw [List.length_drop] at h
              exact h
            · by_cases hcd : cc = dn
              · rw [if_pos hcd]
                exact .inl (List.drop_eq_nil_of_le (by omega))
              · rw [if_neg hcd]
                rcases C4.out with h0 | ⟨b, o, h0, h1⟩
                · exact .inl (by rw [h0]; simp)
                · subst h0
                  have h2 : At eC wr (some ⟨b, o, none⟩) cs := .inr ⟨b, o, rfl, h1⟩
                  have h3 := (h2.drop (d := dn)).below (Below.refl _ _).drew
                  simp only [Option.map_some, Addr.add_lit]
                  exact h3)
          obtain ⟨AD, hAD⟩ : ∃ z, (if cc = dn then ac else Option.map (fun x => x.add (dn * 2)) ac) = z := ⟨_, rfl⟩
          rw [hAD] at HREC
          go_wp2_with fail
          go_region_held3 (fun w' => w'.cell? ⟨X, 6, none⟩ = some (.pointer (some ⟨X', 0, none⟩))) (first | exact q6 | exact (hc _ _ hlk).trans q6)
            (first | (go_at_call 38; refine HREC.out.mono ?_; rintro e wb ⟨hb, r2, rfl, hr2⟩; have HR2 := mkHid hr2; clear hr2; obtain ⟨hc, hf⟩ := bcell hb))
          have HB5 := mkHid (below_step HB4.out (bdrew hb))
          clear hb hc hf q6 hAD
          cases hr2b : r2
          · have HNO : Hid (¬ HasL l (k :: k' :: r) cs) := mkHid fun h => by
              obtain ⟨_, e, h3, h4⟩ := h
              have he : e = dn := by have := h3.num; rw [HN1.out, HN2.out, HD.out] at this; omega
              subst he
              have := HR2.out.2 h4
              rw [hr2b] at this
              cases this
            subst hr2b
            go_wp2
            go_ret
            exact Tells.no HB5.out HNO.out
          · have HYES : Hid (HasL l (k :: k' :: r) cs) := mkHid ⟨HON.out, dn, HSE.out, HR2.out.1 hr2b⟩
            subst hr2b
            go_wp2
            go_ret
            exact Tells.yes HB5.out HYES.out
end Go.Proofs.YtbfmljogfljhdaaGreat
