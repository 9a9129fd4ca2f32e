/-
  CONTRACTS of the program's boundText and link.texts.
-/
import Derived.Test.YthfiblldccnjcaaGreatDoorJn
import Derived.Test.YthfiblldccnjcaaGreatDoorShelfj
import Derived.Deep.WholeRow
namespace Go.Proofs.YthfiblldccnjcaaGreatDoor
open Go.RowKit

theorem strs_snoc (l : List ByteArray) (x : ByteArray) : strs l ++ [.string x] = strs (l ++ [x]) := by simp [strs]
/-- A row of strings of one's own. -/
def OwnG (w : World) (base : Nat) (v : Value) (l : List ByteArray) : Prop := w.ownsRow base 9 1 v l.length (strs l)
theorem OwnG.below {w w' : World} {base : Nat} {v : Value} {l : List ByteArray} (h : OwnG w base v l) (hb : Below w.heap.size w w') : OwnG w' base v l := owns_below h hb
theorem OwnG.nil (w : World) (base : Nat) : OwnG w base (.slice none 0 0) [] := ⟨rfl, .inl ⟨rfl, rfl⟩⟩
theorem OwnG.cells {w : World} {base : Nat} {ao : Option Addr} {n cap : Nat} {l : List ByteArray} (h : OwnG w base (.slice ao n cap) l) (hl : l ≠ []) : ∃ g, ao = some ⟨g, 0, none⟩ ∧ g < w.heap.size ∧ l.length ≤ cap ∧ ∀ (j : Nat) x, l[j]? = some x → w.cell? ⟨g, 0 + j, none⟩ = some (.string x) := by
  rcases h.2 with ⟨e, h0⟩ | ⟨g, cap', cur, e, hb, hg, h1, _⟩
  · exact absurd (List.length_eq_zero_iff.1 h0) hl
  · simp at e
    obtain ⟨rfl, rfl, rfl⟩ := e
    refine ⟨g, rfl, ?_, h1, fun i x hx => ?_⟩
    · rcases Nat.lt_or_ge g w.heap.size with h' | h'
      · exact h'
      · simp [Array.getElem?_eq_none h'] at hg
    · have hi := (List.getElem?_eq_some_iff.1 hx).1
      have := World.ownsRow.cellAt h i (by omega)
      rw [Nat.zero_add, this, strs_get, hx]; rfl
theorem below_alloc (w : World) (o : Obj) : Below w.heap.size w (w.alloc o) := (Below.refl _ _).alloc (Nat.le_refl _) o
theorem Tab.below {w w' : World} (h : Tab w) (hb : Below w.heap.size w w') : Tab w' := fun W hW => h W (below_step hb hW)

set_option maxRecDepth 100000 in
set_option maxHeartbeats 3200000 in
theorem boundText_any (bd : List Y) (ad : Option Addr) (cd : Nat) (nm : List ByteArray) (b off cap : Nat) (w : World) (hne : bd ≠ []) (hbl : bd.length ≤ 40) (hd : At eY w ad bd) (hF : Fit nm 1048576) (hn : StrsIn w nm b off) (ht : Tab w) :
    Calls Tryz.prog 50 #[.slice ad bd.length cd, .slice (some ⟨b, off, none⟩) nm.length cap] w fun e w' => e = .returned (.string (bT nm bd)) ∧ Below w.heap.size w w' := by
  have HD := mkHid hd
  have HF := mkHid hF
  have HN := mkHid hn
  have HT := mkHid ht
  have HNE := mkHid hne
  obtain ⟨i0, hi, hz⟩ := Option.map_eq_some_iff.1 Tryz.info9
  simp only [Prod.mk.injEq] at hz
  have HI := mkHid (show Tryz.prog.info? 9 = some i0 ∧ i0.zero = some (.string ⟨#[]⟩) ∧ i0.size = 1 ∧ i0.bytes = 16 from ⟨hi, hz.1, hz.2.1, hz.2.2⟩)
  clear hd hF hn ht hne hi hz
  go_enter Tryz.func50, Tryz.ntmps50
  go_wp2_with fail
  go_loopg [5, 10] bd.length (fun g s5 s10 wr => ∃ (k : Nat) (so : Option Addr) (sc : Nat), k + g = bd.length ∧ s10 = .int .i64 k ∧ s5 = .slice so k sc ∧ (tT nm (bd.take k)).length = k ∧ OwnG wr w.heap.size (.slice so k sc) (tT nm (bd.take k)) ∧ Below w.heap.size w wr)
  case atStart => exact ⟨0, none, 0, by omega, rfl, rfl, rfl, OwnG.nil _ _, Below.refl _ _⟩
  case round =>
    obtain ⟨k, so, sc, hkg, rfl, rfl, hLl, hO, hB⟩ := hrel
    have HO := mkHid hO
    have HB := mkHid hB
    have HLL := mkHid hLl
    clear hO hB hLl
    cases gk with
    | zero =>
      have hlt : ¬ ((k : Int) < (bd.length : Int)) := by omega
      obtain rfl : k = bd.length := by omega
      have eT : bd.take bd.length = bd := List.take_length
      rw [eT] at HO HLL
      have HLS := tT_size HF.out bd
      have hjs := joinS_size [44, 32] (tT nm bd) 6000000 HLS
      rw [HLL.out] at hjs
      have hj2 : bd.length * (6000000 + [44, 32].length (α := UInt8)) ≤ 40 * (6000000 + 2) := Nat.mul_le_mul_right _ hbl
      obtain ⟨L, hL⟩ : ∃ L, tT nm bd = L := ⟨_, rfl⟩
      have E := mkHid (show bT nm bd = (⟨#[123]⟩ ++ joinS [44, 32] L) ++ ⟨#[125]⟩ by unfold bT; rw [hL])
      rw [hL] at HO HLL hjs
      have hLn : L ≠ [] := fun e => HNE.out (List.length_eq_zero_iff.1 (by rw [← HLL.out, e]; rfl))
      clear hL HLS
      obtain ⟨g, rfl, hg, hcp, hcl⟩ := OwnG.cells HO.out hLn
      have HJ := mkHid (Tryz.strings_Join g 0 sc L ⟨#[44, 32]⟩ wr hcl hg (by rw [HLL.out]; omega) hcp (by rw [← joinS_len [44, 32] L]; omega))
      rw [HLL.out] at HJ
      obtain ⟨s, hs⟩ : ∃ s, joinS [44, 32] L = s := ⟨_, rfl⟩
      have HJ2 : Hid (Calls Tryz.prog 23 #[.slice (some ⟨g, 0, none⟩) bd.length sc, .string ⟨#[44, 32]⟩] wr fun e w' => e = .returned (.string s) ∧ Below wr.heap.size wr w') := mkHid (by rw [← hs]; exact HJ.out)
      rw [hs] at E hjs
      have t1 : ¬ 9223372036854775807 < 1 + s.size := by omega
      have t2 : ¬ 9223372036854775807 < 1 + s.size + 1 := by omega
      have u1 : ((ByteArray.mk #[123]) ++ s).size = 1 + s.size := by simp only [ByteArray.size_append] <;> rfl
      clear hs hcl hg hcp hLn hjs hj2 HJ
      go_wp2_with fail
      refine HJ2.out.mono ?_
      rintro e w5 ⟨rfl, hb⟩
      have B5 := mkHid (below_step HB.out hb)
      clear hb HJ2
      go_wp2
      go_ret
      exact ⟨ret_str E.out.symm, B5.out⟩
    | succ g =>
      have hlt : (k : Int) < (bd.length : Int) := by omega
      have k0 : (0 : Int) ≤ (k : Int) := by omega
      obtain ⟨⟨pv, pc⟩, hp⟩ : ∃ p, bd[k]? = some p := ⟨_, List.getElem?_eq_getElem (by omega)⟩
      obtain ⟨bb, oo, rfl, hce⟩ : ∃ b o, ad = some ⟨b, o, none⟩ ∧ ∀ (i : Nat) (x : Y), bd[i]? = some x → ∀ (j : Nat) (v : Value), (eY.enc x)[j]? = some v → wr.cell? ⟨b, o + i * eY.k + j, none⟩ = some v := by
        rcases HD.out.below HB.out with h | h
        · exact absurd h HNE.out
        · exact h
      obtain ⟨d0, d1⟩ := get_y hce hp
      have HTS := mkHid (tT_snoc (nm := nm) hp)
      have HST : Hid (∀ v, Below w.heap.size w v → Calls Tryz.prog 73 #[.agg #[.int .i64 pv, .int .i64 pc], .slice (some ⟨b, off, none⟩) nm.length cap] v fun e w' => e = .returned (.string (textS nm pv pc)) ∧ Below v.heap.size v w') := mkHid fun v hb => iSymText_of pv pc nm b off cap v HF.out (HN.out.below hb) (HT.out.below hb)
      obtain ⟨t, htt⟩ : ∃ t, textS nm pv pc = t := ⟨_, rfl⟩
      simp only [htt] at HTS HST
      obtain ⟨L, hL⟩ : ∃ L, tT nm (bd.take k) = L := ⟨_, rfl⟩
      rw [hL] at HO HLL HTS
      have AL := below_alloc wr (.cells #[.int .i64 pv, .int .i64 pc] 61)
      have B4 := mkHid (below_step HB.out AL)
      have HO4 := mkHid (HO.out.below AL)
      clear hce hp htt hL AL
      go_wp2_with fail
      refine (HST.out _ B4.out).mono ?_
      rintro e w6 ⟨rfl, hb⟩
      have HB6 := mkHid (below_step B4.out hb)
      have HO6 := mkHid (HO4.out.below hb)
      have hs6 := HB6.out.size
      have HOWN : Hid ((w6.alloc (.cells #[.string t] 9)).ownsRow w.heap.size 9 1 (.slice so k sc) k (strs L)) := mkHid (World.ownsRow.alloc (by have h := HO6.out; unfold OwnG at h; rw [HLL.out] at h; exact h) _)
      clear hb HB HO d0 d1 HO4 B4
      go_wp2_with (at_builtin; refine wpList_append_lies _ rfl _ _ 27 rfl w.heap.size 9 i0 (.string ⟨#[]⟩) 1 16 Tryz.underlying27 HI.out.1 HI.out.2.1 HI.out.2.2.1 HI.out.2.2.2 rfl (by decide) (.slice so k sc) k (strs L) rfl HOWN.out ⟨w6.heap.size, 0, none⟩ 1 1 [.string t] rfl (by rfl) (World.news_of_block (heap_alloc_last w6 _)) (fun u hu => by simp at hu; rcases hu with rfl; rfl) (by decide) (by unfold maxLen; omega) (by omega) (by simp; omega) (w6.heap.size + 1) (by simp) ?_; intro g' cap' w7 hown hgrow hat hlt4)
      have HB7 := mkHid ((HB6.out.alloc HB6.out.size (.cells #[.string t] 9)).grown hgrow (by simp; omega) (fun q' hq' => (HOWN.out.lt q' hq').1))
      have HO7 : Hid ((L ++ [t]).length = k + 1 ∧ OwnG w7 w.heap.size (.slice (some ⟨g', 0, none⟩) (k + 1) cap') (L ++ [t])) := mkHid (by
        have e : (L ++ [t]).length = k + 1 := by rw [List.length_append, HLL.out]; rfl
        refine ⟨e, ?_⟩
        unfold OwnG
        rw [← strs_snoc, e]; exact hown)
      clear hown hgrow hat hlt4
      go_wp2
      go_roundg g
      case measure => omega
      case rel => exact ⟨k + 1, some ⟨g', 0, none⟩, cap', by omega, by go_num, rfl, by rw [HTS.out]; exact HO7.out.1, by rw [HTS.out]; exact HO7.out.2, HB7.out⟩
/-- A row of one string. -/
theorem OwnG.one {w : World} {g base : Nat} {t : ByteArray} (hb : base ≤ g) (hg : w.heap[g]? = some (.cells #[.string t] 9 (0, 0))) : OwnG w base (.slice (some ⟨g, 0, none⟩) 1 1) [t] :=
  ⟨rfl, .inr ⟨g, 1, #[.string t], rfl, hb, hg, Nat.le_refl _, by unfold maxLen; omega, rfl, rfl⟩⟩
structure Fine3 (S : SG) (n : Nat) : Prop where
  b : S.B.length = n + 1
  v : S.V.length = n
  m : S.M.length = n
  n16 : n ≤ 15
  ne : ∀ (k : Nat) (b : List Y), S.B[k]? = some b → b ≠ [] ∧ b.length ≤ 40

set_option maxRecDepth 100000 in
set_option maxHeartbeats 6400000 in
theorem texts_any (S : SG) (n X : Nat) (nm : List ByteArray) (b off cap : Nat) (w : World) (h3 : Fine3 S n) (hc : Chain w X (linksOf S.B S.V S.M)) (hF : Fit nm 1048576) (hn : StrsIn w nm b off) (ht : Tab w) :
    Calls Tryz.prog 25 #[.pointer (some ⟨X, 0, none⟩), .slice (some ⟨b, off, none⟩) nm.length cap] w fun e w' => ∃ so sc, e = .returned (.slice so (pcs nm S n).length sc) ∧ OwnG w' w.heap.size (.slice so (pcs nm S n).length sc) (pcs nm S n) ∧ Below w.heap.size w w' := by
  have HF := mkHid hF
  have HN := mkHid hn
  have HT := mkHid ht
  have H3 := mkHid h3
  have hn16 := h3.n16
  have HC := mkHid (show Chain w X (linksOf (S.B.drop 0) (S.V.drop 0) (S.M.drop 0)) by simpa using hc)
  obtain ⟨i0, hi, hz⟩ := Option.map_eq_some_iff.1 Tryz.info9
  simp only [Prod.mk.injEq] at hz
  have HI := mkHid (show Tryz.prog.info? 9 = some i0 ∧ i0.zero = some (.string ⟨#[]⟩) ∧ i0.size = 1 ∧ i0.bytes = 16 from ⟨hi, hz.1, hz.2.1, hz.2.2⟩)
  have HBT : Hid (∀ (k : Nat) (v9 : World) (ao : Option Addr) (c9 : Nat) (b9 : List Y), S.B[k]? = some b9 → Below w.heap.size w v9 → At eY v9 ao b9 → Calls Tryz.prog 50 #[.slice ao b9.length c9, .slice (some ⟨b, off, none⟩) nm.length cap] v9 fun e w' => e = .returned (.string (bT nm b9)) ∧ Below v9.heap.size v9 w') := mkHid fun k v9 ao c9 b9 hk hb hat => boundText_any b9 ao c9 nm b off cap v9 (H3.out.ne k b9 hk).1 (H3.out.ne k b9 hk).2 hat HF.out (HN.out.below hb) (HT.out.below hb)
  -- the first bound
  have HFI : Hid (∃ b0, S.B[0]? = some b0 ∧ S.B.getD 0 [] = b0 ∧ ∃ k p, k.b = b0 ∧ LinkAt w X k p) := mkHid (by
    obtain ⟨b0, hb0⟩ : ∃ b0, S.B[0]? = some b0 := ⟨_, List.getElem?_eq_getElem (by rw [h3.b]; omega)⟩
    refine ⟨b0, hb0, by rw [List.getD_eq_getElem?_getD, hb0]; rfl, ?_⟩
    rcases Nat.eq_zero_or_pos n with h | h
    · have := HC.out
      rw [links_last hb0 (by rw [h3.b, h])] at this
      exact ⟨_, _, rfl, this⟩
    · have := HC.out
      obtain ⟨v0, hv0⟩ : ∃ v0, S.V[0]? = some v0 := ⟨_, List.getElem?_eq_getElem (by rw [h3.v]; exact h)⟩
      obtain ⟨m0, hm0⟩ : ∃ m0, S.M[0]? = some m0 := ⟨_, List.getElem?_eq_getElem (by rw [h3.m]; exact h)⟩
      rw [links_step hb0 hv0 hm0 (by rw [h3.b]; omega)] at this
      obtain ⟨p, hp⟩ := this.head
      exact ⟨_, p, rfl, hp⟩)
  clear hF hn ht h3 hc hi hz
  obtain ⟨b0, hb0, hbd, k0, p0, hkb, hlk⟩ := HFI.out
  obtain ⟨ao, ca, m0, m1⟩ := hlk.mem
  rw [hkb] at m0 m1
  have HP0 : Hid (pcs nm S 0 = [bT nm b0]) := mkHid (by unfold pcs; rw [hbd])
  have HC0 := mkHid (HBT.out 0 w ao ca b0 hb0 (Below.refl _ _) m1)
  obtain ⟨t0, ht0⟩ : ∃ t, bT nm b0 = t := ⟨_, rfl⟩
  rw [ht0] at HP0 HC0
  clear hb0 hbd hkb hlk m1 ht0 HFI
  go_enter Tryz.func25, Tryz.ntmps25
  go_wp2_with fail
  refine HC0.out.mono ?_
  rintro e w1 ⟨rfl, hb⟩
  have B1 := mkHid (hb.alloc hb.size (.cells #[.string t0] 9))
  have O1 : Hid (OwnG (w1.alloc (.cells #[.string t0] 9)) w.heap.size (.slice (some ⟨w1.heap.size, 0, none⟩) 1 1) [t0]) := mkHid (OwnG.one hb.size (heap_alloc_last w1 _))
  clear hb HC0 m0
  go_wp2_with fail
  go_loopg [5, 6] n (fun g s5 s6 wr => ∃ (j Xj : Nat) (so : Option Addr) (sc : Nat), j + g = n ∧ s6 = .pointer (some ⟨Xj, 0, none⟩) ∧ s5 = .slice so (pcs nm S j).length sc ∧ OwnG wr w.heap.size (.slice so (pcs nm S j).length sc) (pcs nm S j) ∧ Chain w Xj (linksOf (S.B.drop j) (S.V.drop j) (S.M.drop j)) ∧ Below w.heap.size w wr)
  case atStart => exact ⟨0, X, some ⟨w1.heap.size, 0, none⟩, 1, by omega, rfl, by rw [HP0.out]; rfl, by rw [HP0.out]; exact O1.out, HC.out, B1.out⟩
  case round =>
    clear HC O1 B1 HP0
    obtain ⟨j, Xj, so, sc, hjg, rfl, rfl, hO, hC, hB⟩ := hrel
    have HO := mkHid hO
    have HC := mkHid hC
    have HB := mkHid hB
    clear hO hC hB
    cases gk with
    | zero =>
      obtain rfl : j = n := by omega
      have HL : Hid (∃ k, LinkAt w Xj k none) := mkHid (by
        have h := HC.out
        obtain ⟨bj, hbj⟩ : ∃ b0, S.B[j]? = some b0 := ⟨_, List.getElem?_eq_getElem (by rw [H3.out.b]; omega)⟩
        rw [links_last hbj (by rw [H3.out.b])] at h
        exact ⟨_, h⟩)
      obtain ⟨k, hk⟩ := HL.out
      have x6 := (hk.below HB.out).nx
      clear hk HL
      go_wp2
      go_ret
      exact ⟨so, sc, rfl, HO.out, HB.out⟩
    | succ g =>
      obtain ⟨bj, hbj⟩ : ∃ b0, S.B[j]? = some b0 := ⟨_, List.getElem?_eq_getElem (by rw [H3.out.b]; omega)⟩
      obtain ⟨⟨va, vb, vs⟩, hvj⟩ : ∃ v0, S.V[j]? = some v0 := ⟨_, List.getElem?_eq_getElem (by rw [H3.out.v]; omega)⟩
      obtain ⟨mj, hmj⟩ : ∃ m0, S.M[j]? = some m0 := ⟨_, List.getElem?_eq_getElem (by rw [H3.out.m]; omega)⟩
      obtain ⟨bn, hbn⟩ : ∃ b0, S.B[j + 1]? = some b0 := ⟨_, List.getElem?_eq_getElem (by rw [H3.out.b]; omega)⟩
      have HST := HC.out
      rw [links_step hbj hvj hmj (by rw [H3.out.b]; omega)] at HST
      have HNX : ∃ X', LinkAt w Xj ⟨bj, (va, vb, vs), mj⟩ (some ⟨X', 0, none⟩) ∧ Chain w X' (linksOf (S.B.drop (j + 1)) (S.V.drop (j + 1)) (S.M.drop (j + 1))) ∧ ∃ k p, k.b = bn ∧ LinkAt w X' k p := by
        cases hd : linksOf (S.B.drop (j + 1)) (S.V.drop (j + 1)) (S.M.drop (j + 1)) with
        | nil => rw [List.drop_eq_getElem_cons (by rw [H3.out.b]; omega)] at hd; cases h9 : S.B.drop (j + 1 + 1) <;> rw [h9] at hd <;> cases hd
        | cons k' r =>
          rw [hd] at HST
          obtain ⟨X', h1, h2⟩ := HST
          refine ⟨X', h1, h2, k', ?_⟩
          obtain ⟨p, hp⟩ := h2.head
          refine ⟨p, ?_, hp⟩
          rw [List.drop_eq_getElem_cons (by rw [H3.out.b]; omega)] at hd
          have e9 : S.B[j + 1]'(by rw [H3.out.b]; omega) = bn := by
            have := List.getElem?_eq_getElem (l := S.B) (i := j + 1) (by rw [H3.out.b]; omega)
            rw [this] at hbn
            exact Option.some.inj hbn
          rw [e9] at hd
          cases h9 : S.B.drop (j + 1 + 1) <;> rw [h9] at hd <;> (cases hd; rfl)
      obtain ⟨X', hlk, hch, k', p', hkb, hlk'⟩ := HNX
      obtain ⟨an, cn, n0, n1⟩ := hlk'.mem
      rw [hkb] at n0 n1
      have HCH := mkHid hch
      have HLK := mkHid hlk
      have HN0 : Hid (w.cell? ⟨X', 0, none⟩ = some (.slice an bn.length cn) ∧ X' < w.heap.size) := mkHid ⟨n0, hlk'.lt⟩
      have HN1 := mkHid n1
      have HBJ := mkHid hbn
      have HPS : Hid (pcs nm S (j + 1) = (pcs nm S j ++ [vT (va, vb, vs)]) ++ ((if mj then [qB] else []) ++ [bT nm bn])) := mkHid (by
        rw [show pcs nm S (j + 1) = (pcs nm S j ++ [vT (S.V.getD j (0, 0, false))]) ++ ((if S.M.getD j false then [qB] else []) ++ [bT nm (S.B.getD (j + 1) [])]) from rfl, List.getD_eq_getElem?_getD, List.getD_eq_getElem?_getD, List.getD_eq_getElem?_getD, hvj, hmj, hbn]
        rfl)
      have hpl := pcs_len nm S j
      obtain ⟨L, hL⟩ : ∃ L, pcs nm S j = L := ⟨_, rfl⟩
      rw [hL] at HO HPS hpl ⊢
      obtain ⟨q, hq⟩ : ∃ q, L.length = q := ⟨_, rfl⟩
      have HLL := mkHid hq
      rw [hq] at HO hpl ⊢
      have hql : q ≤ 46 := by omega
      have HVT : Hid (∀ v9, Below w.heap.size w v9 → Calls Tryz.prog 51 #[.agg #[.int .i64 va, .int .i64 vb, .bool vs]] v9 fun e w' => e = .returned (.string (vT (va, vb, vs))) ∧ Below v9.heap.size v9 w') := mkHid fun v9 hb => iVtext_any va vb vs v9 (HT.out.below hb)
      obtain ⟨tv, htv⟩ : ∃ t, vT (va, vb, vs) = t := ⟨_, rfl⟩
      simp only [htv] at HVT HPS
      have HTB := mkHid (fun v9 hb => HBT.out (j + 1) v9 an cn bn HBJ.out hb)
      obtain ⟨tb, htb⟩ : ∃ t, bT nm bn = t := ⟨_, rfl⟩
      simp only [htb] at HTB HPS
      obtain ⟨-, -, x2, x3, x4, x5, x6⟩ := hlk.below HB.out
      simp only at x2 x3 x4 x5
      clear hbj hvj hmj hbn HST hlk hch hkb hlk' n0 n1 hL hq htv htb HC hpl
      cases mj with
      | true =>
        go_wp2_with fail
        refine (HVT.out _ HB.out).mono ?_
        rintro e w2 ⟨rfl, hb⟩
        have HB2 := mkHid (below_step HB.out hb)
        have HO2 := mkHid (HO.out.below hb)
        clear hb HB HO x2 x3 x4 x5 x6
        have HOWN3 : Hid ((w2.alloc (.cells #[.string tv] 9)).ownsRow w.heap.size 9 1 (.slice so (q) sc) (q) (strs (L))) := mkHid (World.ownsRow.alloc (by have h := HO2.out; unfold OwnG at h; rw [HLL.out] at h; exact h) _)
        go_wp2_with (first | (at_builtin; refine wpList_append_lies _ rfl _ _ 27 rfl w.heap.size 9 i0 (.string ⟨#[]⟩) 1 16 Tryz.underlying27 HI.out.1 HI.out.2.1 HI.out.2.2.1 HI.out.2.2.2 rfl (by decide) (.slice so (q) sc) (q) (strs (L)) rfl HOWN3.out ⟨w2.heap.size, 0, none⟩ 1 1 [.string tv] rfl (by rfl) (World.news_of_block (heap_alloc_last w2 _)) (fun u hu => by simp at hu; rcases hu with rfl; rfl) (by decide) (by unfold maxLen; omega) (by omega) (by have := HB2.out.size; simp; omega) (w2.heap.size + 1) (by simp) ?_; intro g3 cap3 w3 hown3 hgrow3 hat3 hlt3; have HB3 := mkHid ((HB2.out.alloc HB2.out.size (.cells #[.string tv] 9)).grown hgrow3 (by have := HB2.out.size; simp; omega) (fun q9 hq9 => (HOWN3.out.lt q9 hq9).1)); have HLL3 : Hid ((L ++ [tv]).length = q + 1) := mkHid (by rw [List.length_append, HLL.out]; rfl); have HO3 : Hid (OwnG w3 w.heap.size (.slice (some ⟨g3, 0, none⟩) (q + 1) cap3) (L ++ [tv])) := mkHid (by unfold OwnG; rw [← strs_snoc, HLL3.out]; exact hown3); clear hown3 hgrow3 hat3 hlt3; obtain ⟨-, -, x2, x3, x4, x5, x6⟩ := HLK.out.below HB3.out; dsimp only at x2 x3 x4 x5; clear x2 x3 x4 x6; have HOWN4 : Hid ((w3.alloc (.cells #[.string (ByteArray.mk #[63])] 9)).ownsRow w.heap.size 9 1 (.slice (some ⟨g3, 0, none⟩) (q + 1) cap3) (q + 1) (strs (L ++ [tv]))) := mkHid (World.ownsRow.alloc (by have h := HO3.out; unfold OwnG at h; rw [HLL3.out] at h; exact h) _)) | (at_builtin; refine wpList_append_lies _ rfl _ _ 27 rfl w.heap.size 9 i0 (.string ⟨#[]⟩) 1 16 Tryz.underlying27 HI.out.1 HI.out.2.1 HI.out.2.2.1 HI.out.2.2.2 rfl (by decide) (.slice (some ⟨g3, 0, none⟩) (q + 1) cap3) (q + 1) (strs (L ++ [tv])) rfl HOWN4.out ⟨w3.heap.size, 0, none⟩ 1 1 [.string (ByteArray.mk #[63])] rfl (by rfl) (World.news_of_block (heap_alloc_last w3 _)) (fun u hu => by simp at hu; rcases hu with rfl; rfl) (by decide) (by unfold maxLen; omega) (by omega) (by have := HB3.out.size; simp; omega) (w3.heap.size + 1) (by simp) ?_; intro g4 cap4 w4 hown4 hgrow4 hat4 hlt4; have HB4 := mkHid ((HB3.out.alloc HB3.out.size (.cells #[.string (ByteArray.mk #[63])] 9)).grown hgrow4 (by have := HB3.out.size; simp; omega) (fun q9 hq9 => (HOWN4.out.lt q9 hq9).1)); have HLL4 : Hid ((L ++ [tv] ++ [(ByteArray.mk #[63])]).length = q + 1 + 1) := mkHid (by rw [List.length_append, HLL3.out]; rfl); have HO4 : Hid (OwnG w4 w.heap.size (.slice (some ⟨g4, 0, none⟩) (q + 1 + 1) cap4) (L ++ [tv] ++ [(ByteArray.mk #[63])])) := mkHid (by unfold OwnG; rw [← strs_snoc, HLL4.out]; exact hown4); clear hown4 hgrow4 hat4 hlt4; obtain ⟨-, -, x2, x3, x4, x5, x6⟩ := HLK.out.below HB4.out; dsimp only at x2 x3 x4 x5; have y0 := (HB4.out.cell (p := ⟨X', 0, none⟩) HN0.out.2).trans HN0.out.1))
        go_wp2_with fail
        refine (HTB.out _ HB4.out (HN1.out.below HB4.out)).mono ?_
        rintro e w5 ⟨rfl, hb⟩
        have HB5 := mkHid (below_step HB4.out hb)
        have HO5 := mkHid (HO4.out.below hb)
        clear hb HB4 HO4 x2 x3 x4 x5 x6 y0
        have HOWN6 : Hid ((w5.alloc (.cells #[.string tb] 9)).ownsRow w.heap.size 9 1 (.slice (some ⟨g4, 0, none⟩) (q + 1 + 1) cap4) (q + 1 + 1) (strs (L ++ [tv] ++ [(ByteArray.mk #[63])]))) := mkHid (World.ownsRow.alloc (by have h := HO5.out; unfold OwnG at h; rw [HLL4.out] at h; exact h) _)
        go_wp2_with (at_builtin; refine wpList_append_lies _ rfl _ _ 27 rfl w.heap.size 9 i0 (.string ⟨#[]⟩) 1 16 Tryz.underlying27 HI.out.1 HI.out.2.1 HI.out.2.2.1 HI.out.2.2.2 rfl (by decide) (.slice (some ⟨g4, 0, none⟩) (q + 1 + 1) cap4) (q + 1 + 1) (strs (L ++ [tv] ++ [(ByteArray.mk #[63])])) rfl HOWN6.out ⟨w5.heap.size, 0, none⟩ 1 1 [.string tb] rfl (by rfl) (World.news_of_block (heap_alloc_last w5 _)) (fun u hu => by simp at hu; rcases hu with rfl; rfl) (by decide) (by unfold maxLen; omega) (by omega) (by have := HB5.out.size; simp; omega) (w5.heap.size + 1) (by simp) ?_; intro g6 cap6 w6 hown6 hgrow6 hat6 hlt6; have HB6 := mkHid ((HB5.out.alloc HB5.out.size (.cells #[.string tb] 9)).grown hgrow6 (by have := HB5.out.size; simp; omega) (fun q9 hq9 => (HOWN6.out.lt q9 hq9).1)); have HLL6 : Hid ((L ++ [tv] ++ [(ByteArray.mk #[63])] ++ [tb]).length = q + 1 + 1 + 1) := mkHid (by rw [List.length_append, HLL4.out]; rfl); have HO6 : Hid (OwnG w6 w.heap.size (.slice (some ⟨g6, 0, none⟩) (q + 1 + 1 + 1) cap6) (L ++ [tv] ++ [(ByteArray.mk #[63])] ++ [tb])) := mkHid (by unfold OwnG; rw [← strs_snoc, HLL6.out]; exact hown6); clear hown6 hgrow6 hat6 hlt6; obtain ⟨-, -, x2, x3, x4, x5, x6⟩ := HLK.out.below HB6.out; dsimp only at x2 x3 x4 x5)
        have HPE : Hid (pcs nm S (j + 1) = L ++ [tv] ++ [(ByteArray.mk #[63])] ++ [tb]) := mkHid (by rw [HPS.out]; simp [qB])
        go_wp2
        go_roundg g
        case measure => omega
        case rel => exact ⟨j + 1, X', some ⟨g6, 0, none⟩, cap6, by omega, rfl, by rw [HPE.out, HLL6.out], by rw [HPE.out, HLL6.out]; exact HO6.out, HCH.out, HB6.out⟩
      | false =>
        go_wp2_with fail
        refine (HVT.out _ HB.out).mono ?_
        rintro e w2 ⟨rfl, hb⟩
        have HB2 := mkHid (below_step HB.out hb)
        have HO2 := mkHid (HO.out.below hb)
        clear hb HB HO x2 x3 x4 x5 x6
        have HOWN3 : Hid ((w2.alloc (.cells #[.string tv] 9)).ownsRow w.heap.size 9 1 (.slice so (q) sc) (q) (strs (L))) := mkHid (World.ownsRow.alloc (by have h := HO2.out; unfold OwnG at h; rw [HLL.out] at h; exact h) _)
        go_wp2_with (at_builtin; refine wpList_append_lies _ rfl _ _ 27 rfl w.heap.size 9 i0 (.string ⟨#[]⟩) 1 16 Tryz.underlying27 HI.out.1 HI.out.2.1 HI.out.2.2.1 HI.out.2.2.2 rfl (by decide) (.slice so (q) sc) (q) (strs (L)) rfl HOWN3.out ⟨w2.heap.size, 0, none⟩ 1 1 [.string tv] rfl (by rfl) (World.news_of_block (heap_alloc_last w2 _)) (fun u hu => by simp at hu; rcases hu with rfl; rfl) (by decide) (by unfold maxLen; omega) (by omega) (by have := HB2.out.size; simp; omega) (w2.heap.size + 1) (by simp) ?_; intro g3 cap3 w3 hown3 hgrow3 hat3 hlt3; have HB3 := mkHid ((HB2.out.alloc HB2.out.size (.cells #[.string tv] 9)).grown hgrow3 (by have := HB2.out.size; simp; omega) (fun q9 hq9 => (HOWN3.out.lt q9 hq9).1)); have HLL3 : Hid ((L ++ [tv]).length = q + 1) := mkHid (by rw [List.length_append, HLL.out]; rfl); have HO3 : Hid (OwnG w3 w.heap.size (.slice (some ⟨g3, 0, none⟩) (q + 1) cap3) (L ++ [tv])) := mkHid (by unfold OwnG; rw [← strs_snoc, HLL3.out]; exact hown3); clear hown3 hgrow3 hat3 hlt3; obtain ⟨-, -, x2, x3, x4, x5, x6⟩ := HLK.out.below HB3.out; dsimp only at x2 x3 x4 x5; have y0 := (HB3.out.cell (p := ⟨X', 0, none⟩) HN0.out.2).trans HN0.out.1)
        go_wp2_with fail
        refine (HTB.out _ HB3.out (HN1.out.below HB3.out)).mono ?_
        rintro e w5 ⟨rfl, hb⟩
        have HB5 := mkHid (below_step HB3.out hb)
        have HO5 := mkHid (HO3.out.below hb)
        clear hb HB3 HO3 x2 x3 x4 x5 x6 y0
        have HOWN6 : Hid ((w5.alloc (.cells #[.string tb] 9)).ownsRow w.heap.size 9 1 (.slice (some ⟨g3, 0, none⟩) (q + 1) cap3) (q + 1) (strs (L ++ [tv]))) := mkHid (World.ownsRow.alloc (by have h := HO5.out; unfold OwnG at h; rw [HLL3.out] at h; exact h) _)
        go_wp2_with (at_builtin; refine wpList_append_lies _ rfl _ _ 27 rfl w.heap.size 9 i0 (.string ⟨#[]⟩) 1 16 Tryz.underlying27 HI.out.1 HI.out.2.1 HI.out.2.2.1 HI.out.2.2.2 rfl (by decide) (.slice (some ⟨g3, 0, none⟩) (q + 1) cap3) (q + 1) (strs (L ++ [tv])) rfl HOWN6.out ⟨w5.heap.size, 0, none⟩ 1 1 [.string tb] rfl (by rfl) (World.news_of_block (heap_alloc_last w5 _)) (fun u hu => by simp at hu; rcases hu with rfl; rfl) (by decide) (by unfold maxLen; omega) (by omega) (by have := HB5.out.size; simp; omega) (w5.heap.size + 1) (by simp) ?_; intro g6 cap6 w6 hown6 hgrow6 hat6 hlt6; have HB6 := mkHid ((HB5.out.alloc HB5.out.size (.cells #[.string tb] 9)).grown hgrow6 (by have := HB5.out.size; simp; omega) (fun q9 hq9 => (HOWN6.out.lt q9 hq9).1)); have HLL6 : Hid ((L ++ [tv] ++ [tb]).length = q + 1 + 1) := mkHid (by rw [List.length_append, HLL3.out]; rfl); have HO6 : Hid (OwnG w6 w.heap.size (.slice (some ⟨g6, 0, none⟩) (q + 1 + 1) cap6) (L ++ [tv] ++ [tb])) := mkHid (by unfold OwnG; rw [← strs_snoc, HLL6.out]; exact hown6); clear hown6 hgrow6 hat6 hlt6; obtain ⟨-, -, x2, x3, x4, x5, x6⟩ := HLK.out.below HB6.out; dsimp only at x2 x3 x4 x5)
        have HPE : Hid (pcs nm S (j + 1) = L ++ [tv] ++ [tb]) := mkHid (by rw [HPS.out]; simp)
        go_wp2
        go_roundg g
        case measure => omega
        case rel => exact ⟨j + 1, X', some ⟨g6, 0, none⟩, cap6, by omega, rfl, by rw [HPE.out, HLL6.out], by rw [HPE.out, HLL6.out]; exact HO6.out, HCH.out, HB6.out⟩
end Go.Proofs.YthfiblldccnjcaaGreatDoor
