/-
  CONTRACT of the specification's l10Text.
-/
import Derived.Test.YthfiblldccnjcaaGreatDoorBt
namespace Go.Proofs.YthfiblldccnjcaaGreatDoor
open Go.RowKit

theorem app_nil9 (sep : List UInt8) (x : ByteArray) : x ++ joinS sep [] = x := by
  apply list_inj
  rw [ba_app]
  show x.data.toList ++ (Lib.join [] sep).toArray.toList = _
  rw [Lib.join_nil]
  simp
theorem app_emp (x : ByteArray) : x ++ (ByteArray.mk #[]) = x := by
  apply list_inj
  rw [ba_app]
  simp
def oT (nm : List ByteArray) (S : SG) : Nat → ByteArray
  | 0 => ⟨#[]⟩
  | i + 1 => joinS [32] (pcs nm S i)
theorem oT_size {nm : List ByteArray} (hF : Fit nm 1048576) {S : SG} (hS : ∀ k, (S.B.getD k []).length ≤ 40) (i : Nat) (hi : i ≤ 16) : (oT nm S i).size ≤ 20000000000 := by
  cases i with
  | zero => exact Nat.zero_le _
  | succ i =>
    have h1 := joinS_size [32] (pcs nm S i) 300000000 (fun s hs => pcs_size hF hS i s hs)
    have h2 := pcs_len nm S i
    have h3 : (pcs nm S i).length * (300000000 + [32].length (α := UInt8)) ≤ 46 * (300000000 + 1) := Nat.mul_le_mul_right _ (by omega)
    show (joinS [32] (pcs nm S i)).size ≤ _
    omega
theorem fin_zero (nm : List ByteArray) (S : SG) : (((ByteArray.mk #[]) ++ ⟨#[123]⟩) ++ joinS [44, 32] (tT nm (S.B.getD 0 []))) ++ ⟨#[125]⟩ = oT nm S 1 := by
  show _ = joinS [32] [bT nm (S.B.getD 0 [])]
  rw [joinS_one]
  unfold bT
  apply list_inj
  simp only [ba_app]
  simp
theorem fin_step (nm : List ByteArray) (S : SG) (k : Nat) (o : ByteArray) (ho : oT nm S (k + 1) = o) (q : ByteArray) (hq : (if S.M.getD k false then ⟨#[63, 32]⟩ else ⟨#[]⟩) = q) : ((((((o ++ ⟨#[32]⟩) ++ vT (S.V.getD k (0, 0, false))) ++ ⟨#[32]⟩) ++ q) ++ ⟨#[123]⟩) ++ joinS [44, 32] (tT nm (S.B.getD (k + 1) []))) ++ ⟨#[125]⟩ = oT nm S (k + 2) := by
  show _ = joinS [32] (pcs nm S (k + 1))
  rw [segT_step, hq, show joinS [32] (pcs nm S k) = o from ho]
  unfold bT
  apply list_inj
  simp only [ba_app]
  simp
theorem At.one {α : Type} {E : El α} {w : World} {a : Option Addr} {l : List α} (h : At E w a l) (hl : l ≠ []) : ∃ b o, a = some ⟨b, o, none⟩ ∧ ∀ (i : Nat) (x : α), l[i]? = some x → ∀ (j : Nat) (v : Value), (E.enc x)[j]? = some v → w.cell? ⟨b, o + i * E.k + j, none⟩ = some v := by
  rcases h with h | h
  · exact absurd h hl
  · exact h

set_option maxRecDepth 100000 in
set_option maxHeartbeats 12800000 in
theorem l10Text_any (S : SG) (A : SAd) (n : Nat) (nm : List ByteArray) (b off cap : Nat) (w : World) (h3 : Fine3 S n) (hS : SegAt w A S) (hF : Fit nm 1048576) (hn : StrsIn w nm b off) :
    Calls Tryz.prog 17 #[.agg #[.slice A.a0 S.B.length A.c0, .slice A.a1 S.V.length A.c1, .slice A.a2 S.M.length A.c2], .slice (some ⟨b, off, none⟩) nm.length cap] w fun e w' => e = .returned (.string (joinS [32] (pcs nm S n))) ∧ Below w.heap.size w w' := by
  have HF := mkHid hF
  have H3 := mkHid h3
  have hn16 := h3.n16
  have HGD : Hid (∀ k, (S.B.getD k []).length ≤ 40) := mkHid fun k => by
    rw [List.getD_eq_getElem?_getD]
    cases e : S.B[k]? with
    | none => exact Nat.zero_le _
    | some b => exact (h3.ne k b e).2
  have A1 := below_alloc w (.cells #[.slice A.a0 S.B.length A.c0, .slice A.a1 S.V.length A.c1, .slice A.a2 S.M.length A.c2] 34)
  have G1 := mkHid (G3.new w (.slice A.a0 S.B.length A.c0) (.slice A.a1 S.V.length A.c1) (.slice A.a2 S.M.length A.c2) 34)
  have S1 := mkHid (hS.below A1)
  have N1 := mkHid (hn.below A1)
  have B1 := mkHid A1
  obtain ⟨w1, hw1⟩ : ∃ x, w.alloc (.cells #[.slice A.a0 S.B.length A.c0, .slice A.a1 S.V.length A.c1, .slice A.a2 S.M.length A.c2] 34) = x := ⟨_, rfl⟩
  rw [hw1] at G1 S1 N1 B1
  obtain ⟨X, hX⟩ : ∃ x, w.heap.size = x := ⟨_, rfl⟩
  rw [hX] at G1
  have HBL := mkHid h3.b
  rw [h3.b] at G1 hw1 ⊢
  clear hF h3 hS hn A1
  go_enter Tryz.func17, Tryz.ntmps17
  go_wp2_with fail
  clear hw1 hX
  go_loopg [5, 6] (n + 1) (fun g s5 s6 wr => ∃ i : Nat, i + g = n + 1 ∧ s6 = .int .i64 i ∧ s5 = .string (oT nm S i) ∧ Below w1.heap.size w1 wr)
  case atStart => exact ⟨0, by omega, rfl, rfl, Below.refl _ _⟩
  case round =>
    obtain ⟨i, hig, rfl, rfl, hB⟩ := hrel
    have HB := mkHid hB
    clear hB
    have hos := oT_size HF.out HGD.out i (by omega)
    obtain ⟨c0, c1, c2, f0, f1, f2⟩ := G1.out.below HB.out
    cases gk with
    | zero =>
      have hlt : ¬ ((i : Int) < (n : Int) + 1) := by omega
      have hlt' : ¬ ((i : Int) < ((n + 1 : Nat) : Int)) := by omega
      obtain rfl : i = n + 1 := by omega
      have E := mkHid (show joinS [32] (pcs nm S n) = oT nm S (n + 1) from rfl)
      obtain ⟨o, ho⟩ : ∃ o, oT nm S (n + 1) = o := ⟨_, rfl⟩
      rw [ho] at E ⊢
      clear ho
      go_wp2
      go_ret
      exact ⟨ret_str E.out.symm, below_step B1.out HB.out⟩
    | succ g =>
      have hlt : (i : Int) < (n : Int) + 1 := by omega
      have hlt' : (i : Int) < ((n + 1 : Nat) : Int) := by omega
      have ki : (0 : Int) ≤ (i : Int) := by omega
      obtain ⟨bd, hbd⟩ : ∃ b0, S.B[i]? = some b0 := ⟨_, List.getElem?_eq_getElem (by rw [HBL.out]; omega)⟩
      obtain ⟨hbn, hb40⟩ := H3.out.ne i bd hbd
      have HBG : Hid (S.B.getD i [] = bd) := mkHid (by rw [List.getD_eq_getElem?_getD, hbd]; rfl)
      have HROW : Hid (∃ b9 o9 ao cp, A.a0 = some ⟨b9, o9, none⟩ ∧ w1.cell? ⟨b9, o9 + i, none⟩ = some (.slice ao bd.length cp) ∧ At eY w1 ao bd) := mkHid (by
        rcases S1.out.b with h | ⟨b9, o9, e, h⟩
        · have := HBL.out; rw [h] at this; simp at this
        · obtain ⟨ao, cp, h1, h2⟩ := h i bd hbd
          exact ⟨b9, o9, ao, cp, e, h1, h2⟩)
      obtain ⟨b9, o9, ao, cp, ea, r0, hat⟩ := HROW.out
      obtain ⟨br, or', rfl, hce⟩ := hat.one hbn
      have HR0 := mkHid r0
      have HCE : Hid (∀ (j : Nat) (pv pc : Int), bd[j]? = some (pv, pc) → w1.cell? ⟨br, or' + j * 2, none⟩ = some (.int .i64 pv) ∧ w1.cell? ⟨br, or' + j * 2 + 1, none⟩ = some (.int .i64 pc)) := mkHid fun j pv pc h => get_y hce h
      have HBN := mkHid hbn
      rw [ea] at c0
      obtain ⟨o, ho⟩ : ∃ o, oT nm S i = o := ⟨_, rfl⟩
      rw [ho] at hos ⊢
      have HOO := mkHid ho
      have GX : Hid (G3 w1 X (.slice (some ⟨b9, o9, none⟩) (n + 1) A.c0) (.slice A.a1 S.V.length A.c1) (.slice A.a2 S.M.length A.c2)) := mkHid (by rw [← ea]; exact G1.out)
      clear hce hat r0 hbd hbn ho HROW ea
      cases i with
      | zero =>
        have hgt : ¬ ((0 : Int) < 0) := by omega
        obtain rfl : o = ⟨#[]⟩ := HOO.out.symm
        have HFIN := mkHid (fin_zero nm S)
        rw [HBG.out] at HFIN
        obtain ⟨pp, hpp⟩ : ∃ z, (ByteArray.mk #[]) ++ (ByteArray.mk #[123]) = z := ⟨_, rfl⟩
        have hps : pp.size = 0 + 1 := by rw [← hpp]; simp only [ByteArray.size_append] <;> rfl
        have HPP := mkHid hpp
        rw [hpp] at HFIN
        have tp : ¬ 9223372036854775807 < 0 + 1 := by omega
        clear hpp
        have r0 := ((bcell HB.out).1 _ _ (World.block_lt_of_cell? w1 _ HR0.out)).trans HR0.out
        rw [Nat.add_zero] at r0
        go_wp2_with fail
        go_loopg [5, 7] bd.length (fun g2 s5 s7 wy => ∃ (j : Nat) (o5 : ByteArray), j + g2 = bd.length ∧ s7 = .int .i64 j ∧ s5 = .string o5 ∧ o5 = pp ++ joinS [44, 32] (tT nm (bd.take j)) ∧ Below w1.heap.size w1 wy)
        case atStart => exact ⟨0, _, by omega, rfl, rfl, by rw [HPP.out]; exact (app_nil9 _ _).symm, HB.out⟩
        case round =>
          clear HB c0 c1 c2 f0 f1 f2 r0
          obtain ⟨j, o5, hjg, rfl, rfl, ho5, hBy⟩ := hrel
          have HBy := mkHid hBy
          obtain ⟨c0, c1, c2, f0, f1, f2⟩ := GX.out.below hBy
          have r0 := ((bcell hBy).1 _ _ (World.block_lt_of_cell? w1 _ HR0.out)).trans HR0.out
          rw [Nat.add_zero] at r0
          have hjs := joinS_size [44, 32] (tT nm (bd.take j)) 6000000 (tT_size HF.out _)
          have hjl : (tT nm (bd.take j)).length * (6000000 + [44, 32].length (α := UInt8)) ≤ 40 * (6000000 + 2) := Nat.mul_le_mul_right _ (by rw [tT_len, List.length_take]; omega)
          have hs5 : o5.size ≤ 30000000000 := by rw [ho5, ByteArray.size_append]; omega
          have HO5 := mkHid ho5
          clear hBy hjs hjl ho5
          cases gk with
          | zero =>
            have hltj : ¬ ((j : Int) < (bd.length : Int)) := by omega
            have tz : ¬ 9223372036854775807 < o5.size + 1 := by omega
            obtain rfl : j = bd.length := by omega
            have HE : Hid (o5 ++ (ByteArray.mk #[125]) = oT nm S (1)) := mkHid (by have h := HO5.out; rw [List.take_length] at h; rw [h]; exact HFIN.out)
            go_wp2
            go_roundg g
            case measure => omega
            case rel => exact ⟨1, by omega, by go_num, by rw [← HE.out], HBy.out⟩
          | succ g2 =>
            have hltj : (j : Int) < (bd.length : Int) := by omega
            have kj : (0 : Int) ≤ (j : Int) := by omega
            obtain ⟨⟨pv, pc⟩, hp⟩ : ∃ p, bd[j]? = some p := ⟨_, List.getElem?_eq_getElem (by omega)⟩
            obtain ⟨y0, y1⟩ := HCE.out j pv pc hp
            have e0 := ((bcell HBy.out).1 _ _ (World.block_lt_of_cell? w1 _ y0)).trans y0
            have e1 := ((bcell HBy.out).1 _ _ (World.block_lt_of_cell? w1 _ y1)).trans y1
            have HTS := mkHid (tT_snoc (nm := nm) hp)
            have HST : Hid (∀ v9, Below w1.heap.size w1 v9 → Calls Tryz.prog 37 #[.agg #[.int .i64 pv, .int .i64 pc], .slice (some ⟨b, off, none⟩) nm.length cap] v9 fun e w' => e = .returned (.string (textS nm pv pc)) ∧ Below v9.heap.size v9 w') := mkHid fun v9 hb => sSymText_of pv pc nm b off cap v9 HF.out (N1.out.below hb)
            have hts := textS_size HF.out pv pc
            obtain ⟨t, htt⟩ : ∃ t, textS nm pv pc = t := ⟨_, rfl⟩
            simp only [htt] at HTS HST hts
            clear y0 y1 hp htt
            by_cases hj0 : j = 0
            · have hg0 : ¬ ((0 : Int) < (j : Int)) := by omega
              have hg1 : ¬ (0 < j) := by omega
              have ts : ¬ 9223372036854775807 < o5.size + t.size := by omega
              have HE : Hid (o5 ++ t = pp ++ joinS [44, 32] (tT nm (bd.take (j + 1)))) := mkHid (by
                rw [HTS.out, HO5.out, hj0, show tT nm (bd.take 0) = [] from rfl, List.nil_append, joinS_one, app_nil9])
              clear hj0
              go_wp2_with fail
              refine (HST.out _ HBy.out).mono ?_
              rintro e w5 ⟨rfl, hb⟩
              have HB5 := mkHid (below_step HBy.out hb)
              clear hb
              go_wp2
              go_roundg g2
              case measure => omega
              case rel => exact ⟨j + 1, _, by omega, by go_num, rfl, HE.out, HB5.out⟩
            · have hg0 : (0 : Int) < (j : Int) := by omega
              have hg1 : 0 < j := by omega
              have ts0 : ¬ 9223372036854775807 < o5.size + 2 := by omega
              have us0 : (o5 ++ (ByteArray.mk #[44, 32])).size = o5.size + 2 := by simp only [ByteArray.size_append] <;> rfl
              have ts : ¬ 9223372036854775807 < o5.size + 2 + t.size := by omega
              have HE : Hid ((o5 ++ (ByteArray.mk #[44, 32])) ++ t = pp ++ joinS [44, 32] (tT nm (bd.take (j + 1)))) := mkHid (by
                rw [HTS.out, joinS_snoc _ (fun e => hj0 (by have h := congrArg List.length e; rw [tT_len, List.length_take] at h; have h9 : min j bd.length = 0 := h; omega)), HO5.out]
                apply list_inj
                simp only [ba_app]
                simp)
              clear hj0
              go_wp2_with fail
              refine (HST.out _ HBy.out).mono ?_
              rintro e w5 ⟨rfl, hb⟩
              have HB5 := mkHid (below_step HBy.out hb)
              clear hb
              go_wp2
              go_roundg g2
              case measure => omega
              case rel => exact ⟨j + 1, _, by omega, by go_num, rfl, HE.out, HB5.out⟩
      | succ k =>
        have hgt : (0 : Int) < ((k + 1 : Nat) : Int) := by omega
        have hgt2 : (0 : Int) < (k : Int) + 1 := by omega
        have hgt3 : 0 < k + 1 := by omega
        have hwk : IntKind.i64.wrap ((k : Int) + 1 - 1) = (k : Int) := by rw [IntWalk.i64_in _ ⟨by omega, by omega⟩]; omega
        have hwk2 : IntKind.i64.wrap (((k + 1 : Nat) : Int) - 1) = (k : Int) := by rw [IntWalk.i64_in _ ⟨by omega, by omega⟩]; omega
        obtain ⟨⟨va, vb, vs⟩, hvj⟩ : ∃ v0, S.V[k]? = some v0 := ⟨_, List.getElem?_eq_getElem (by rw [H3.out.v]; omega)⟩
        obtain ⟨mj, hmj⟩ : ∃ m0, S.M[k]? = some m0 := ⟨_, List.getElem?_eq_getElem (by rw [H3.out.m]; omega)⟩
        obtain ⟨bv, ov, ev, hcv⟩ := S1.out.v.one (fun e => by have := H3.out.v; rw [e] at this; simp at this; omega)
        obtain ⟨bm, om, em, hcm⟩ := S1.out.m.one (fun e => by have := H3.out.m; rw [e] at this; simp at this; omega)
        have HV := mkHid (get_v hcv hvj)
        have HM := mkHid (get_b hcm hmj)
        have HVG : Hid (S.V.getD k (0, 0, false) = (va, vb, vs)) := mkHid (by rw [List.getD_eq_getElem?_getD, hvj]; rfl)
        have HMG : Hid (S.M.getD k false = mj) := mkHid (by rw [List.getD_eq_getElem?_getD, hmj]; rfl)
        have hvl : (k : Int) < (S.V.length : Int) := by have := H3.out.v; omega
        have hml : (k : Int) < (S.M.length : Int) := by have := H3.out.m; omega
        have kk : (0 : Int) ≤ (k : Int) := by omega
        rw [ev] at c1 GX
        rw [em] at c2 GX
        clear hcv hcm hvj hmj ev em
        obtain ⟨v0, v1, v2⟩ := HV.out
        have bc := bcell HB.out
        have d0 := (bc.1 _ _ (World.block_lt_of_cell? w1 _ v0)).trans v0
        have d1 := (bc.1 _ _ (World.block_lt_of_cell? w1 _ v1)).trans v1
        have d2 := (bc.1 _ _ (World.block_lt_of_cell? w1 _ v2)).trans v2
        clear v0 v1 v2 bc
        have HVT : Hid (∀ v9, Calls Tryz.prog 36 #[.agg #[.int .i64 va, .int .i64 vb, .bool vs]] v9 fun e w' => e = .returned (.string (vT (va, vb, vs))) ∧ Below v9.heap.size v9 w') := mkHid fun v9 => sVtext_any va vb vs v9
        have hvs := vT_size (va, vb, vs)
        have HFS := mkHid (fin_step nm S k o HOO.out)
        rw [HVG.out, HMG.out, HBG.out] at HFS
        obtain ⟨tv, htv⟩ : ∃ t, vT (va, vb, vs) = t := ⟨_, rfl⟩
        simp only [htv] at HVT HFS hvs
        clear htv
        have t1 : ¬ 9223372036854775807 < o.size + 1 := by omega
        have t2 : ¬ 9223372036854775807 < o.size + 1 + tv.size := by omega
        have t3 : ¬ 9223372036854775807 < o.size + 1 + tv.size + 1 := by omega
        have t4 : ¬ 9223372036854775807 < o.size + 1 + tv.size + 1 + 2 := by omega
        have u1 : (o ++ (ByteArray.mk #[32])).size = o.size + 1 := by simp only [ByteArray.size_append] <;> rfl
        have u2 : ((o ++ (ByteArray.mk #[32])) ++ tv).size = o.size + 1 + tv.size := by simp only [ByteArray.size_append] <;> rfl
        have u3 : (((o ++ (ByteArray.mk #[32])) ++ tv) ++ (ByteArray.mk #[32])).size = o.size + 1 + tv.size + 1 := by simp only [ByteArray.size_append] <;> rfl
        go_wp2_with fail
        refine (HVT.out _).mono ?_
        rintro e w2 ⟨rfl, hb⟩
        have HB2 := mkHid (below_step HB.out hb)
        clear hb HB c0 c1 c2 f0 f1 f2 d0 d1 d2
        obtain ⟨c0, c1, c2, f0, f1, f2⟩ := GX.out.below HB2.out
        have dm := ((bcell HB2.out).1 _ _ (World.block_lt_of_cell? w1 _ HM.out)).trans HM.out
        have HB := HB2
        clear HB2
        cases mj with
        | true =>
          have HFIN := mkHid (HFS.out (ByteArray.mk #[63, 32]) rfl)
          obtain ⟨pp, hpp⟩ : ∃ z, ((((o ++ (ByteArray.mk #[32])) ++ tv) ++ (ByteArray.mk #[32])) ++ (ByteArray.mk #[63, 32])) ++ (ByteArray.mk #[123]) = z := ⟨_, rfl⟩
          have hps : pp.size = o.size + 1 + tv.size + 1 + 2 + 1 := by rw [← hpp]; simp only [ByteArray.size_append] <;> rfl
          have HPP := mkHid hpp
          rw [hpp] at HFIN
          have tp : ¬ 9223372036854775807 < o.size + 1 + tv.size + 1 + 2 + 1 := by omega
          have u4 : ((((o ++ (ByteArray.mk #[32])) ++ tv) ++ (ByteArray.mk #[32])) ++ (ByteArray.mk #[63, 32])).size = o.size + 1 + tv.size + 1 + 2 := by simp only [ByteArray.size_append] <;> rfl
          clear hpp
          have r0 := ((bcell HB.out).1 _ _ (World.block_lt_of_cell? w1 _ HR0.out)).trans HR0.out
          go_wp2_with fail
          go_loopg [5, 7] bd.length (fun g2 s5 s7 wy => ∃ (j : Nat) (o5 : ByteArray), j + g2 = bd.length ∧ s7 = .int .i64 j ∧ s5 = .string o5 ∧ o5 = pp ++ joinS [44, 32] (tT nm (bd.take j)) ∧ Below w1.heap.size w1 wy)
          case atStart => exact ⟨0, _, by omega, rfl, rfl, by rw [HPP.out]; exact (app_nil9 _ _).symm, HB.out⟩
          case round =>
            clear HB c0 c1 c2 f0 f1 f2 r0 dm
            obtain ⟨j, o5, hjg, rfl, rfl, ho5, hBy⟩ := hrel
            have HBy := mkHid hBy
            obtain ⟨c0, c1, c2, f0, f1, f2⟩ := GX.out.below hBy
            have r0 := ((bcell hBy).1 _ _ (World.block_lt_of_cell? w1 _ HR0.out)).trans HR0.out
            have hjs := joinS_size [44, 32] (tT nm (bd.take j)) 6000000 (tT_size HF.out _)
            have hjl : (tT nm (bd.take j)).length * (6000000 + [44, 32].length (α := UInt8)) ≤ 40 * (6000000 + 2) := Nat.mul_le_mul_right _ (by rw [tT_len, List.length_take]; omega)
            have hs5 : o5.size ≤ 30000000000 := by rw [ho5, ByteArray.size_append]; omega
            have HO5 := mkHid ho5
            clear hBy hjs hjl ho5
            cases gk with
            | zero =>
              have hltj : ¬ ((j : Int) < (bd.length : Int)) := by omega
              have tz : ¬ 9223372036854775807 < o5.size + 1 := by omega
              obtain rfl : j = bd.length := by omega
              have HE : Hid (o5 ++ (ByteArray.mk #[125]) = oT nm S (k + 2)) := mkHid (by have h := HO5.out; rw [List.take_length] at h; rw [h]; exact HFIN.out)
              go_wp2
              go_roundg g
              case measure => omega
              case rel => exact ⟨k + 2, by omega, by go_num, by rw [← HE.out], HBy.out⟩
            | succ g2 =>
              have hltj : (j : Int) < (bd.length : Int) := by omega
              have kj : (0 : Int) ≤ (j : Int) := by omega
              obtain ⟨⟨pv, pc⟩, hp⟩ : ∃ p, bd[j]? = some p := ⟨_, List.getElem?_eq_getElem (by omega)⟩
              obtain ⟨y0, y1⟩ := HCE.out j pv pc hp
              have e0 := ((bcell HBy.out).1 _ _ (World.block_lt_of_cell? w1 _ y0)).trans y0
              have e1 := ((bcell HBy.out).1 _ _ (World.block_lt_of_cell? w1 _ y1)).trans y1
              have HTS := mkHid (tT_snoc (nm := nm) hp)
              have HST : Hid (∀ v9, Below w1.heap.size w1 v9 → Calls Tryz.prog 37 #[.agg #[.int .i64 pv, .int .i64 pc], .slice (some ⟨b, off, none⟩) nm.length cap] v9 fun e w' => e = .returned (.string (textS nm pv pc)) ∧ Below v9.heap.size v9 w') := mkHid fun v9 hb => sSymText_of pv pc nm b off cap v9 HF.out (N1.out.below hb)
              have hts := textS_size HF.out pv pc
              obtain ⟨t, htt⟩ : ∃ t, textS nm pv pc = t := ⟨_, rfl⟩
              simp only [htt] at HTS HST hts
              clear y0 y1 hp htt
              by_cases hj0 : j = 0
              · have hg0 : ¬ ((0 : Int) < (j : Int)) := by omega
                have hg1 : ¬ (0 < j) := by omega
                have ts : ¬ 9223372036854775807 < o5.size + t.size := by omega
                have HE : Hid (o5 ++ t = pp ++ joinS [44, 32] (tT nm (bd.take (j + 1)))) := mkHid (by
                  rw [HTS.out, HO5.out, hj0, show tT nm (bd.take 0) = [] from rfl, List.nil_append, joinS_one, app_nil9])
                clear hj0
                go_wp2_with fail
                refine (HST.out _ HBy.out).mono ?_
                rintro e w5 ⟨rfl, hb⟩
                have HB5 := mkHid (below_step HBy.out hb)
                clear hb
                go_wp2
                go_roundg g2
                case measure => omega
                case rel => exact ⟨j + 1, _, by omega, by go_num, rfl, HE.out, HB5.out⟩
              · have hg0 : (0 : Int) < (j : Int) := by omega
                have hg1 : 0 < j := by omega
                have ts0 : ¬ 9223372036854775807 < o5.size + 2 := by omega
                have us0 : (o5 ++ (ByteArray.mk #[44, 32])).size = o5.size + 2 := by simp only [ByteArray.size_append] <;> rfl
                have ts : ¬ 9223372036854775807 < o5.size + 2 + t.size := by omega
                have HE : Hid ((o5 ++ (ByteArray.mk #[44, 32])) ++ t = pp ++ joinS [44, 32] (tT nm (bd.take (j + 1)))) := mkHid (by
                  rw [HTS.out, joinS_snoc _ (fun e => hj0 (by have h := congrArg List.length e; rw [tT_len, List.length_take] at h; have h9 : min j bd.length = 0 := h; omega)), HO5.out]
                  apply list_inj
                  simp only [ba_app]
                  simp)
                clear hj0
                go_wp2_with fail
                refine (HST.out _ HBy.out).mono ?_
                rintro e w5 ⟨rfl, hb⟩
                have HB5 := mkHid (below_step HBy.out hb)
                clear hb
                go_wp2
                go_roundg g2
                case measure => omega
                case rel => exact ⟨j + 1, _, by omega, by go_num, rfl, HE.out, HB5.out⟩
        | false =>
          have HFIN0 := HFS.out (ByteArray.mk #[]) rfl
          rw [app_emp] at HFIN0
          have HFIN := mkHid HFIN0
          clear HFIN0
          obtain ⟨pp, hpp⟩ : ∃ z, (((o ++ (ByteArray.mk #[32])) ++ tv) ++ (ByteArray.mk #[32])) ++ (ByteArray.mk #[123]) = z := ⟨_, rfl⟩
          have hps : pp.size = o.size + 1 + tv.size + 1 + 1 := by rw [← hpp]; simp only [ByteArray.size_append] <;> rfl
          have HPP := mkHid hpp
          rw [hpp] at HFIN
          have tp : ¬ 9223372036854775807 < o.size + 1 + tv.size + 1 + 1 := by omega
          clear hpp
          have r0 := ((bcell HB.out).1 _ _ (World.block_lt_of_cell? w1 _ HR0.out)).trans HR0.out
          go_wp2_with fail
          go_loopg [5, 7] bd.length (fun g2 s5 s7 wy => ∃ (j : Nat) (o5 : ByteArray), j + g2 = bd.length ∧ s7 = .int .i64 j ∧ s5 = .string o5 ∧ o5 = pp ++ joinS [44, 32] (tT nm (bd.take j)) ∧ Below w1.heap.size w1 wy)
          case atStart => exact ⟨0, _, by omega, rfl, rfl, by rw [HPP.out]; exact (app_nil9 _ _).symm, HB.out⟩
          case round =>
            clear HB c0 c1 c2 f0 f1 f2 r0 dm
            obtain ⟨j, o5, hjg, rfl, rfl, ho5, hBy⟩ := hrel
            have HBy := mkHid hBy
            obtain ⟨c0, c1, c2, f0, f1, f2⟩ := GX.out.below hBy
            have r0 := ((bcell hBy).1 _ _ (World.block_lt_of_cell? w1 _ HR0.out)).trans HR0.out
            have hjs := joinS_size [44, 32] (tT nm (bd.take j)) 6000000 (tT_size HF.out _)
            have hjl : (tT nm (bd.take j)).length * (6000000 + [44, 32].length (α := UInt8)) ≤ 40 * (6000000 + 2) := Nat.mul_le_mul_right _ (by rw [tT_len, List.length_take]; omega)
            have hs5 : o5.size ≤ 30000000000 := by rw [ho5, ByteArray.size_append]; omega
            have HO5 := mkHid ho5
            clear hBy hjs hjl ho5
            cases gk with
            | zero =>
              have hltj : ¬ ((j : Int) < (bd.length : Int)) := by omega
              have tz : ¬ 9223372036854775807 < o5.size + 1 := by omega
              obtain rfl : j = bd.length := by omega
              have HE : Hid (o5 ++ (ByteArray.mk #[125]) = oT nm S (k + 2)) := mkHid (by have h := HO5.out; rw [List.take_length] at h; rw [h]; exact HFIN.out)
              go_wp2
              go_roundg g
              case measure => omega
              case rel => exact ⟨k + 2, by omega, by go_num, by rw [← HE.out], HBy.out⟩
            | succ g2 =>
              have hltj : (j : Int) < (bd.length : Int) := by omega
              have kj : (0 : Int) ≤ (j : Int) := by omega
              obtain ⟨⟨pv, pc⟩, hp⟩ : ∃ p, bd[j]? = some p := ⟨_, List.getElem?_eq_getElem (by omega)⟩
              obtain ⟨y0, y1⟩ := HCE.out j pv pc hp
              have e0 := ((bcell HBy.out).1 _ _ (World.block_lt_of_cell? w1 _ y0)).trans y0
              have e1 := ((bcell HBy.out).1 _ _ (World.block_lt_of_cell? w1 _ y1)).trans y1
              have HTS := mkHid (tT_snoc (nm := nm) hp)
              have HST : Hid (∀ v9, Below w1.heap.size w1 v9 → Calls Tryz.prog 37 #[.agg #[.int .i64 pv, .int .i64 pc], .slice (some ⟨b, off, none⟩) nm.length cap] v9 fun e w' => e = .returned (.string (textS nm pv pc)) ∧ Below v9.heap.size v9 w') := mkHid fun v9 hb => sSymText_of pv pc nm b off cap v9 HF.out (N1.out.below hb)
              have hts := textS_size HF.out pv pc
              obtain ⟨t, htt⟩ : ∃ t, textS nm pv pc = t := ⟨_, rfl⟩
              simp only [htt] at HTS HST hts
              clear y0 y1 hp htt
              by_cases hj0 : j = 0
              · have hg0 : ¬ ((0 : Int) < (j : Int)) := by omega
                have hg1 : ¬ (0 < j) := by omega
                have ts : ¬ 9223372036854775807 < o5.size + t.size := by omega
                have HE : Hid (o5 ++ t = pp ++ joinS [44, 32] (tT nm (bd.take (j + 1)))) := mkHid (by
                  rw [HTS.out, HO5.out, hj0, show tT nm (bd.take 0) = [] from rfl, List.nil_append, joinS_one, app_nil9])
                clear hj0
                go_wp2_with fail
                refine (HST.out _ HBy.out).mono ?_
                rintro e w5 ⟨rfl, hb⟩
                have HB5 := mkHid (below_step HBy.out hb)
                clear hb
                go_wp2
                go_roundg g2
                case measure => omega
                case rel => exact ⟨j + 1, _, by omega, by go_num, rfl, HE.out, HB5.out⟩
              · have hg0 : (0 : Int) < (j : Int) := by omega
                have hg1 : 0 < j := by omega
                have ts0 : ¬ 9223372036854775807 < o5.size + 2 := by omega
                have us0 : (o5 ++ (ByteArray.mk #[44, 32])).size = o5.size + 2 := by simp only [ByteArray.size_append] <;> rfl
                have ts : ¬ 9223372036854775807 < o5.size + 2 + t.size := by omega
                have HE : Hid ((o5 ++ (ByteArray.mk #[44, 32])) ++ t = pp ++ joinS [44, 32] (tT nm (bd.take (j + 1)))) := mkHid (by
                  rw [HTS.out, joinS_snoc _ (fun e => hj0 (by have h := congrArg List.length e; rw [tT_len, List.length_take] at h; have h9 : min j bd.length = 0 := h; omega)), HO5.out]
                  apply list_inj
                  simp only [ba_app]
                  simp)
                clear hj0
                go_wp2_with fail
                refine (HST.out _ HBy.out).mono ?_
                rintro e w5 ⟨rfl, hb⟩
                have HB5 := mkHid (below_step HBy.out hb)
                clear hb
                go_wp2
                go_roundg g2
                case measure => omega
                case rel => exact ⟨j + 1, _, by omega, by go_num, rfl, HE.out, HB5.out⟩
end Go.Proofs.YthfiblldccnjcaaGreatDoor
