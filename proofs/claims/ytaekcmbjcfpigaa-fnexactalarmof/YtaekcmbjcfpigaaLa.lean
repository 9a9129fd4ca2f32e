/-
  FnExactAlarmOf holds at every argument: the program's AlarmOf answers as the specification's, and the arguments read as before. No conditions.
-/
import Derived.Test.YtaekcmbjcfpigaaLo
import Derived.Test.YtaekcmbjcfpigaaFk
import Derived.Test.YtaekcmbjcfpigaaFj
import Derived.Test.YtaekcmbjcfpigaaCh
import Derived.Test.YtaekcmbjcfpigaaTa
namespace Go.Proofs.Ytaekcmbjcfpigaa
open Go.ChangeShapes Go.WideShapes Go.ChangeAt Go.RowKit Go.Joins

theorem szA_any (a : Option Addr) (n c : Nat) (left : Int) (w : World) (hn : n ≤ maxLen) (h0 : 0 ≤ left) (h1 : left ≤ 1048576) :
    Calls Try.prog 4 #[.slice a n c, .int .i64 left] w fun e w' => e = .returned (.int .i64 (szN left n)) ∧ w = w' := by
  unfold maxLen at hn
  unfold szN
  by_cases h : left - n < 0
  · rw [if_pos h]
    go_enter Try.func4, Try.ntmps4
    go_wp2
    go_ret
    exact ⟨rfl, rfl⟩
  · rw [if_neg h]
    go_enter Try.func4, Try.ntmps4
    go_wp2
    go_ret
    exact ⟨rfl, rfl⟩
set_option maxRecDepth 100000 in
set_option maxHeartbeats 6400000 in
theorem law_walk (L : List AA) (la : Option Addr) (lc : Nat) (p u s t e x : Int) (l : List Int) (a : Option Addr) (c : Nat) (ls : List (List CC)) (b : Option Addr) (d : Nat) (w : World) (hLn : L.length ≤ maxLen) (hLa : At eA w la L) (hn : l.length ≤ maxLen) (hm : ls.length ≤ maxLen) (hr : ∀ (i : Nat) (l : List CC), ls[i]? = some l → l.length ≤ maxLen) (hi : At eI w a l) (hc : RowsC w b ls) :
    Calls Try.prog 3 #[.slice la L.length lc, .agg #[.int .i64 p, .slice a l.length c, .slice b ls.length d, .int .i64 u, .int .i64 s, .int .i64 t, .int .i64 e, .int .i64 x]] w fun f w' => f = .returned (.bool true) ∧ Below w.heap.size w w' := by
  obtain ⟨w0, hw0⟩ : ∃ z : World, w.alloc (.cells #[.int .i64 p, .slice a l.length c, .slice b ls.length d, .int .i64 u, .int .i64 s, .int .i64 t, .int .i64 e, .int .i64 x] 26) = z := ⟨_, rfl⟩
  obtain ⟨X, hX⟩ : ∃ z, w.heap.size = z := ⟨_, rfl⟩
  have B_0 : Hid (Below w.heap.size w w0) := mkHid (by rw [← hw0]; exact bl_alloc (Below.refl _ _) _)
  have P_0 : Hid (B8 w0 X (.int .i64 p) (.slice a l.length c) (.slice b ls.length d) (.int .i64 u) (.int .i64 s) (.int .i64 t) (.int .i64 e) (.int .i64 x)) := mkHid (by rw [← hw0, ← hX]; constructor <;> simp [go_sem])
  have LA_0 := mkHid (hLa.below B_0.out)
  have LI_0 := mkHid (hi.below B_0.out)
  have LC_0 := mkHid (hc.below B_0.out)
  have HLN := mkHid hLn
  have HN := mkHid hn
  have HM := mkHid hm
  have HR := mkHid hr
  clear hLn hLa hn hm hr hi hc
  go_enter Try.func3, Try.ntmps3
  go_wp2_with fail
  try rw [hw0]
  clear hw0 hX
  refine (szA_any la L.length lc 1048576 _ HLN.out (by omega) (by omega)).mono ?_
  rintro f _ ⟨rfl, rfl⟩
  obtain ⟨q, hq⟩ : ∃ z, szN 1048576 L.length = z := ⟨_, rfl⟩
  have HQ : Hid (¬ q < 0 → L.length ≤ 1048576 ∧ 0 ≤ q ∧ q ≤ 1048576) := mkHid fun h => by unfold szN at hq; split at hq <;> omega
  rw [hq]
  clear hq
  by_cases hneg : q < 0
  · go_wp2
    go_ret
    exact ⟨rfl, B_0.out⟩
  have HL0 : Hid (L.length ≤ 1048576) := mkHid (HQ.out hneg).1
  have HQ2 := mkHid (HQ.out hneg).2
  clear HQ
  obtain ⟨q0, q1, q2, q3, q4, q5, q6, q7, _, _, _, _, _, _, _, _⟩ := P_0.out
  go_wp2_with fail
  refine (szConf_any p u s t e x l a c ls b d q _ HN.out HM.out HR.out HQ2.out.1 HQ2.out.2 LC_0.out).mono ?_
  rintro f w2 ⟨hb, r, rfl, hr⟩
  have HQ3 := mkHid hr
  clear q0 q1 q2 q3 q4 q5 q6 q7
  have B_1 := mkHid (below_step B_0.out hb)
  have P_2 := mkHid (P_0.out.below hb)
  have LA_3 := mkHid (LA_0.out.below hb)
  have LI_4 := mkHid (LI_0.out.below hb)
  have LC_5 := mkHid (LC_0.out.below hb)
  clear B_0 P_0 LA_0 LI_0 LC_0 hb
  clear hr hneg HQ2
  by_cases hneg : r < 0
  · go_wp2
    go_ret
    exact ⟨rfl, B_1.out⟩
  have HZ := mkHid (HQ3.out (by omega))
  clear HQ3
  obtain ⟨q0, q1, q2, q3, q4, q5, q6, q7, _, _, _, _, _, _, _, _⟩ := P_2.out
  have hlx := P_2.out.lt
  go_wp2_with fail
  go_region_held3 (fun v => v.cell? ⟨X, 0, none⟩ = some (.int .i64 p) ∧ v.cell? ⟨X, 1, none⟩ = some (.slice a l.length c) ∧ v.cell? ⟨X, 2, none⟩ = some (.slice b ls.length d) ∧ v.cell? ⟨X, 3, none⟩ = some (.int .i64 u) ∧ v.cell? ⟨X, 4, none⟩ = some (.int .i64 s) ∧ v.cell? ⟨X, 5, none⟩ = some (.int .i64 t) ∧ v.cell? ⟨X, 6, none⟩ = some (.int .i64 e) ∧ v.cell? ⟨X, 7, none⟩ = some (.int .i64 x))
    (first | assumption | (simp (maxDischargeDepth := 12) [*, go_sem]; done))
    (first | (go_at_call 7; refine (toAlarmS_any L la lc _ HL0.out (LA_3.out.below (by repeat (first | with_reducible exact Below.refl _ _ | with_reducible assumption | with_reducible refine bl_drew ?_ | with_reducible refine below_step ?_ (by assumption))))).mono ?_; rintro f wa ⟨ga, rfl, hoa, hba⟩; (try rw [below_drew] at hba); obtain ⟨hc, hf, hm, hs⟩ := bcell4 hba; have hza := hm _ (by first | exact hlx | assumption)) | (go_at_call 8; refine (toConf_any p u s t e x l a c ls b d _ HZ.out.1 HZ.out.2.1 HZ.out.2.2 (LI_4.out.below (by repeat (first | with_reducible exact Below.refl _ _ | with_reducible assumption | with_reducible refine bl_drew ?_ | with_reducible refine below_step ?_ (by assumption)))) (LC_5.out.below (by repeat (first | with_reducible exact Below.refl _ _ | with_reducible assumption | with_reducible refine bl_drew ?_ | with_reducible refine below_step ?_ (by assumption))))).mono ?_; rintro f wb ⟨g, h, rfl, hi, hr, hbb⟩; (try rw [below_drew] at hbb); obtain ⟨hc', hf', hm', hs'⟩ := bcell4 hbb; have hzb := hm' _ (by first | exact hlx | assumption)) | (go_at_call 6; refine (sAlarmOf_any L _ _ p u s t e x _ _ _ _ _ _ _ HLN.out (hoa.at.below (by repeat (first | with_reducible exact Below.refl _ _ | with_reducible assumption | with_reducible refine bl_drew ?_ | with_reducible refine below_step ?_ (by assumption))))).mono ?_; rintro f w3 ⟨rfl, hb3⟩; obtain ⟨hc'', hf'', hm'', hs''⟩ := bcell4 hb3))
  have hb := below_step (below_step hba hbb) hb3
  clear hc hf hm hs hza hc' hf' hm' hs' hzb hc'' hf'' hm'' hs'' hba hbb hb3 hoa hi hr hlx
  clear q0 q1 q2 q3 q4 q5 q6 q7
  have B_6 := mkHid (below_step B_1.out hb)
  have P_7 := mkHid (P_2.out.below hb)
  have LA_8 := mkHid (LA_3.out.below hb)
  have LI_9 := mkHid (LI_4.out.below hb)
  have LC_10 := mkHid (LC_5.out.below hb)
  clear B_1 P_2 LA_3 LI_4 LC_5 hb
  go_wp2_with fail
  refine (toAlarmS_any L la lc _ HL0.out LA_8.out).mono ?_
  rintro f w4 ⟨gx, rfl, ho, hb⟩
  have B_11 := mkHid (below_step B_6.out hb)
  have P_12 := mkHid (P_7.out.below hb)
  have LA_13 := mkHid (LA_8.out.below hb)
  have LI_14 := mkHid (LI_9.out.below hb)
  have LC_15 := mkHid (LC_10.out.below hb)
  clear B_6 P_7 LA_8 LI_9 LC_10 hb
  have A_0 := mkHid ho.at
  clear ho
  obtain ⟨q0, q1, q2, q3, q4, q5, q6, q7, _, _, _, _, _, _, _, _⟩ := P_12.out
  go_wp2_with fail
  refine (toConf_any p u s t e x l a c ls b d _ HZ.out.1 HZ.out.2.1 HZ.out.2.2 LI_14.out LC_15.out).mono ?_
  rintro f w5 ⟨g, h, rfl, hi, hr, hb⟩
  clear q0 q1 q2 q3 q4 q5 q6 q7
  have B_16 := mkHid (below_step B_11.out hb)
  have P_17 := mkHid (P_12.out.below hb)
  have LA_18 := mkHid (LA_13.out.below hb)
  have LI_19 := mkHid (LI_14.out.below hb)
  have LC_20 := mkHid (LC_15.out.below hb)
  have A_21 := mkHid (A_0.out.below hb)
  clear B_11 P_12 LA_13 LI_14 LC_15 A_0 hb
  have I_0 := mkHid hi
  have R_0 := mkHid hr
  clear hi hr
  obtain ⟨w6, hw6⟩ : ∃ z : World, w5.alloc (.cells #[.int .i64 p, .slice (some ⟨g, 0, none⟩) l.length l.length, .slice (some ⟨h, 0, none⟩) ls.length ls.length, .int .i64 u, .int .i64 s, .int .i64 t, .int .i64 e, .int .i64 x] 34) = z := ⟨_, rfl⟩
  obtain ⟨Y, hY⟩ : ∃ z, w5.heap.size = z := ⟨_, rfl⟩
  have hb : Below w5.heap.size w5 w6 := by rw [← hw6]; exact bl_alloc (Below.refl _ _) _
  have GX_0 : Hid (B8 w6 Y (.int .i64 p) (.slice (some ⟨g, 0, none⟩) l.length l.length) (.slice (some ⟨h, 0, none⟩) ls.length ls.length) (.int .i64 u) (.int .i64 s) (.int .i64 t) (.int .i64 e) (.int .i64 x)) := mkHid (by rw [← hw6, ← hY]; constructor <;> simp [go_sem])
  have B_22 := mkHid (below_step B_16.out hb)
  have P_23 := mkHid (P_17.out.below hb)
  have LA_24 := mkHid (LA_18.out.below hb)
  have LI_25 := mkHid (LI_19.out.below hb)
  have LC_26 := mkHid (LC_20.out.below hb)
  have A_27 := mkHid (A_21.out.below hb)
  have I_28 := mkHid (I_0.out.below hb)
  have R_29 := mkHid (R_0.out.below hb)
  clear B_16 P_17 LA_18 LI_19 LC_20 A_21 I_0 R_0 hb
  obtain ⟨p0, p1, p2, p3, p4, p5, p6, p7, _, _, _, _, _, _, _, _⟩ := GX_0.out
  go_wp2_with fail
  try rw [hw6]
  clear hw6 hY
  refine (iAlarmOf_any L _ _ p u s t e x _ _ _ _ _ _ _ HLN.out A_27.out).mono ?_
  rintro f w7 ⟨rfl, hb⟩
  clear p0 p1 p2 p3 p4 p5 p6 p7
  have B_30 := mkHid (below_step B_22.out hb)
  have P_31 := mkHid (P_23.out.below hb)
  have LA_32 := mkHid (LA_24.out.below hb)
  have LI_33 := mkHid (LI_25.out.below hb)
  have LC_34 := mkHid (LC_26.out.below hb)
  have A_35 := mkHid (A_27.out.below hb)
  have I_36 := mkHid (I_28.out.below hb)
  have R_37 := mkHid (R_29.out.below hb)
  have GX_38 := mkHid (GX_0.out.below hb)
  clear B_22 P_23 LA_24 LI_25 LC_26 A_27 I_28 R_29 GX_0 hb
  obtain ⟨z, hz⟩ : ∃ z, inB L e x t = z := ⟨_, rfl⟩
  rw [hz]
  clear hz
  have hne : (z != z) = false := by simp
  go_wp2_with fail
  refine (toAlarmS_any L la lc _ HL0.out LA_32.out).mono ?_
  rintro f w8 ⟨gy, rfl, ho, hb⟩
  have B_39 := mkHid (below_step B_30.out hb)
  have P_40 := mkHid (P_31.out.below hb)
  have LA_41 := mkHid (LA_32.out.below hb)
  have LI_42 := mkHid (LI_33.out.below hb)
  have LC_43 := mkHid (LC_34.out.below hb)
  have A_44 := mkHid (A_35.out.below hb)
  have I_45 := mkHid (I_36.out.below hb)
  have R_46 := mkHid (R_37.out.below hb)
  have GX_47 := mkHid (GX_38.out.below hb)
  clear B_30 P_31 LA_32 LI_33 LC_34 A_35 I_36 R_37 GX_38 hb
  have A2_0 := mkHid ho.at
  clear ho
  go_wp2_with fail
  refine (eqAlarmS_same L _ _ _ _ _ HLN.out A_44.out A2_0.out).mono ?_
  rintro f w9 ⟨rfl, hb⟩
  have B_48 := mkHid (below_step B_39.out hb)
  have P_49 := mkHid (P_40.out.below hb)
  have LA_50 := mkHid (LA_41.out.below hb)
  have LI_51 := mkHid (LI_42.out.below hb)
  have LC_52 := mkHid (LC_43.out.below hb)
  have A_53 := mkHid (A_44.out.below hb)
  have I_54 := mkHid (I_45.out.below hb)
  have R_55 := mkHid (R_46.out.below hb)
  have GX_56 := mkHid (GX_47.out.below hb)
  have A2_57 := mkHid (A2_0.out.below hb)
  clear B_39 P_40 LA_41 LI_42 LC_43 A_44 I_45 R_46 GX_47 A2_0 hb
  obtain ⟨q0, q1, q2, q3, q4, q5, q6, q7, _, _, _, _, _, _, _, _⟩ := P_49.out
  obtain ⟨p0, p1, p2, p3, p4, p5, p6, p7, _, _, _, _, _, _, _, _⟩ := GX_56.out
  have hlx := P_49.out.lt
  have hly := GX_56.out.lt
  go_wp2_with fail
  go_region_held3 (fun v => v.cell? ⟨X, 0, none⟩ = some (.int .i64 p) ∧ v.cell? ⟨X, 1, none⟩ = some (.slice a l.length c) ∧ v.cell? ⟨X, 2, none⟩ = some (.slice b ls.length d) ∧ v.cell? ⟨X, 3, none⟩ = some (.int .i64 u) ∧ v.cell? ⟨X, 4, none⟩ = some (.int .i64 s) ∧ v.cell? ⟨X, 5, none⟩ = some (.int .i64 t) ∧ v.cell? ⟨X, 6, none⟩ = some (.int .i64 e) ∧ v.cell? ⟨X, 7, none⟩ = some (.int .i64 x) ∧ v.cell? ⟨Y, 0, none⟩ = some (.int .i64 p) ∧ v.cell? ⟨Y, 1, none⟩ = some (.slice (some ⟨g, 0, none⟩) l.length l.length) ∧ v.cell? ⟨Y, 2, none⟩ = some (.slice (some ⟨h, 0, none⟩) ls.length ls.length) ∧ v.cell? ⟨Y, 3, none⟩ = some (.int .i64 u) ∧ v.cell? ⟨Y, 4, none⟩ = some (.int .i64 s) ∧ v.cell? ⟨Y, 5, none⟩ = some (.int .i64 t) ∧ v.cell? ⟨Y, 6, none⟩ = some (.int .i64 e) ∧ v.cell? ⟨Y, 7, none⟩ = some (.int .i64 x))
    (first | assumption | (simp (maxDischargeDepth := 12) [*, go_sem]; done))
    (first | (go_at_call 8; refine (toConf_any p u s t e x l a c ls b d _ HZ.out.1 HZ.out.2.1 HZ.out.2.2 (LI_51.out.below (by repeat (first | with_reducible exact Below.refl _ _ | with_reducible assumption | with_reducible refine bl_drew ?_ | with_reducible refine below_step ?_ (by assumption)))) (LC_52.out.below (by repeat (first | with_reducible exact Below.refl _ _ | with_reducible assumption | with_reducible refine bl_drew ?_ | with_reducible refine below_step ?_ (by assumption))))).mono ?_; rintro f wb ⟨g', h', rfl, hi, hr, hbb⟩; (try rw [below_drew] at hbb); obtain ⟨hc', hf', hm', hs'⟩ := bcell4 hbb; have hzb := hm' _ hlx; have hzy := hm' _ hly) | (go_at_call 11; refine (eqConf_same p u s t e x l _ _ _ _ ls _ _ _ _ _ HZ.out.1 HZ.out.2.1 HR.out (I_54.out.below (by repeat (first | with_reducible exact Below.refl _ _ | with_reducible assumption | with_reducible refine bl_drew ?_ | with_reducible refine below_step ?_ (by assumption)))) (R_55.out.below (by repeat (first | with_reducible exact Below.refl _ _ | with_reducible assumption | with_reducible refine bl_drew ?_ | with_reducible refine below_step ?_ (by assumption)))) hi hr).mono ?_; rintro f w10 ⟨rfl, hb3⟩; obtain ⟨hc'', hf'', hm'', hs''⟩ := bcell4 hb3))
  have hb := below_step hbb hb3
  clear hc' hf' hm' hs' hzb hzy hc'' hf'' hm'' hs'' hbb hb3 hi hr hlx hly
  clear q0 q1 q2 q3 q4 q5 q6 q7
  clear p0 p1 p2 p3 p4 p5 p6 p7
  have B_58 := mkHid (below_step B_48.out hb)
  have P_59 := mkHid (P_49.out.below hb)
  have LA_60 := mkHid (LA_50.out.below hb)
  have LI_61 := mkHid (LI_51.out.below hb)
  have LC_62 := mkHid (LC_52.out.below hb)
  have A_63 := mkHid (A_53.out.below hb)
  have I_64 := mkHid (I_54.out.below hb)
  have R_65 := mkHid (R_55.out.below hb)
  have GX_66 := mkHid (GX_56.out.below hb)
  have A2_67 := mkHid (A2_57.out.below hb)
  clear B_48 P_49 LA_50 LI_51 LC_52 A_53 I_54 R_55 GX_56 A2_57 hb
  go_wp2
  go_ret
  exact ⟨rfl, B_58.out⟩

set_option maxRecDepth 100000 in
theorem law_lifted (os : Os) (started : os.Started) (H : Type) (enc : TypeId × Value → H) :
    ReturnsInHanded {} Try.checked os 3 .any (Rows.fnExactAlarmOfSpec.pre6 enc Try.prog Try.f3 Rows.fnExactAlarmOfRow.domain false) (Rows.fnExactAlarmOfSpec.post enc Try.prog Try.f3 false true false false) := by
  refine returnsInHanded_of_change (C := Try.checked) Try.own started (by kernel_rfl) Try.func3
    (ChangeSpec.witness6 (enc := enc) (C := Try.checked) false ⟨#[], #[.slice none 0 0, .agg #[.int .i64 0, .slice none 0 0, .slice none 0 0, .int .i64 0, .int .i64 0, .int .i64 0, .int .i64 0, .int .i64 0]], []⟩ 8 (by kernel_rfl) (by kernel_rfl) (by kernel_rfl) (by kernel_rfl)) ?_
  intro W base args ds gs before hval0 hW hcnd _
  have hval : ∀ (j : Nat) t v, Try.f3.params[j]? = some t → args[j]? = some v → Value.okWide Try.prog W .any base t v := hval0
  have hW' := hW
  obtain ⟨p, q, hA0, hV, rfl, hfz, hnd⟩ := hW
  have hA : DataW.TrodAll enc Try.prog W 0 (fun _ => true) true Try.f3.params.toList args.toList ds p := hA0
  rw [Try.params3] at hA hval
  obtain ⟨v0, vs0, d0, ds0, p0, q0, hargs, rfl, rfl, h0, r0⟩ := trodAll_cons hA
  obtain ⟨v1, vs1, d1, ds1, p1, q1, rfl, rfl, rfl, h1, r1⟩ := trodAll_cons r0
  obtain ⟨rfl, rfl, rfl⟩ := trodAll_nil r1
  obtain rfl : args = #[v0, v1] := by cases args; simp_all
  obtain ⟨rfl, rfl⟩ := trodVars_none hV
  have k0 := h0
  have lt0 : ∀ x ∈ p0, x.block < W.heap.size := by obtain ⟨m, hm⟩ := k0; exact DataW.trod_lt m _ _ _ hm
  have k1 := h1
  have lt1 : ∀ x ∈ p1, x.block < W.heap.size := by obtain ⟨m, hm⟩ := k1; exact DataW.trod_lt m _ _ _ hm
  obtain ⟨a0, le0, c0, hv0⟩ := okWide_slice Try.underlying22 (hval 0 22 v0 rfl rfl)
  subst hv0
  obtain ⟨L, rfl, hn0, hl0⟩ := open_alarmS h0
  obtain ⟨p', u, s, t, e, x, l, a, c, ls, b, d, hv1, hl, hm, hr, hi, hc⟩ := open_conf (hval 1 26 v1 rfl rfl) h1
  subst hv1
  clear hA0 hval0
  refine (law_walk L a0 c0 p' u s t e x l a c ls b d W hn0 hl0 hl hm hr hi hc).mono fun e W' ⟨he, bel⟩ => ?_
  subst he
  exact ⟨_, rfl, _, _, _, [], _, [], hW', trodAll_mk1 (shut_bool Try.underlying4 _), (trodAll_cons_mk (Below.trod Try.laidOut (by kernel_rfl) (of_decide_eq_true (by kernel_rfl)) k0 bel lt0) (trodAll_cons_mk (Below.trod Try.laidOut (by kernel_rfl) (of_decide_eq_true (by kernel_rfl)) k1 bel lt1) trodAll_mk0)), rfl, bel.frame _, fun h => by cases h⟩
theorem law_holds : Rows.FnExactAlarmOfSaid :=
  OpenClaim.holds_of_wide 3 Try.f3 rfl rfl rfl rfl rfl rfl rfl ⟨rfl, rfl, rfl, rfl, rfl⟩ rfl rfl rfl rfl rfl (by kernel_rfl) Try.func3 (by kernel_rfl)
    (of_decide_eq_true (by kernel_rfl)) (by unfold Func.isWrapper; first | (rw [if_pos (by decide +kernel)]; kernel_rfl) | (rw [if_neg (by decide +kernel)]; exact ⟨rfl, rfl⟩))
    (fun os started H enc _ => law_lifted os started H enc)

#print axioms law_holds
end Go.Proofs.Ytaekcmbjcfpigaa
